/- What the rows' condition says of the package's variables. -/
import Derived.Test.YtbjfpmklmhgbdaaDoorWordsLaws1
import Derived.Test.YtbjfpmklmhgbdaaDoorRows
import Derived.ProofKit
import Derived.LaidMore
import Derived.OpenShut
import Derived.Stop.Joined
import Derived.Stop.LaidErr
import Derived.Lib.LaidTab
namespace Go.Proofs.YtbjfpmklmhgbdaaDoor
open Go.ChangeShapes Go.WideShapes Go.ChangeAt Go.RowKit

theorem own_none : ownKnob Tryd.prog.godebug = none := by kernel_rfl

theorem star_es : "*" ++ "errors.errorString" = "*errors.errorString" := by decide
theorem row_es (u : TypeId) (h : Tryd.prog.typeName? 3 u = some "*errors.errorString") : u = 132 :=
  typeName_ptr_named (nm := "errors.errorString") (by rw [star_es]; kernel_rfl) (by kernel_rfl) (by decide) u (by rw [star_es]; exact h)

set_option maxRecDepth 100000 in
theorem esc_pair {enc : TypeId × Value → Unit} {W : World} {base : Nat} {sp : Nat → Bool} {held : Bool} {m : Nat} {c : List Value} {x : DataW Unit × List MemPlace} {a b : Int} (h : DataW.trod enc Tryd.prog W base sp held m 112 c = some x) (hx : x.1 = .agg [.lit (.int .u8 a), .lit (.int .u8 b)]) : c = [.int .u8 a, .int .u8 b] := by
  obtain ⟨y0, y1, n, ex, hl, h0, h1⟩ := trod_struct2 Tryd.underlying112 h
  rw [ex] at hx
  clear h ex
  have c1 : Tryd.prog.cellsOf 112 = 2 := by kernel_rfl
  have c2 : Tryd.prog.cellsOf 5 = 1 := by kernel_rfl
  obtain ⟨u, e0, rfl, _⟩ := DataW.trod_int Tryd.underlying5 h0
  obtain ⟨v, e1, rfl, _⟩ := DataW.trod_int Tryd.underlying5 h1
  simp only [DataW.agg.injEq, List.cons.injEq, DataW.lit.injEq, Lit.int.injEq, true_and, and_true] at hx
  obtain ⟨rfl, rfl⟩ := hx
  rw [c1] at hl
  simp only [c2] at e0 e1
  match c, hl with
  | [p, q], _ =>
    simp only [List.drop_zero, List.take_succ_cons, List.take_zero, List.drop_succ_cons, List.cons.injEq, and_true] at e0 e1
    rw [e0, e1]
set_option maxRecDepth 100000 in
theorem esc_of_laid {W : World} (h : laidMet Tryd.prog [("groundling/words.escapes", Rows.laid_groundling_words_escapes)] W) : EscIn W := by
  obtain ⟨ps, ⟨g', t', cs, fuel, p, q, hg', ht', hvar, hd, _, _⟩, _⟩ := h
  obtain rfl := Option.some.inj ((show Tryd.prog.globalNamed "groundling/words.escapes" = some 0 by kernel_rfl).symm.trans hg')
  obtain rfl := Option.some.inj ((show (Tryd.prog.globals[0]?).map (·.type) = some 113 by kernel_rfl).symm.trans ht')
  obtain ⟨xs, m, rfl, hx, hl, hn, hel⟩ := DataW.trod_array Tryd.underlying113 hd
  have c0 : Tryd.prog.cellsOf 113 = 10 := by kernel_rfl
  have c1 : Tryd.prog.cellsOf 112 = 2 := by kernel_rfl
  have c2 : Tryd.prog.cellsOf 5 = 1 := by kernel_rfl
  rw [c0] at hl
  rw [c1] at hel
  have hcs : cs.toList = escRow.toList := by
    match xs, hn, hx, hel with
    | [x0, x1, x2, x3, x4], _, hx, hel =>
      have hx1 := congrArg Prod.fst hx
      simp only [Rows.laid_groundling_words_escapes, List.map_cons, List.map_nil, DataW.agg.injEq, List.cons.injEq, and_true] at hx1
      obtain ⟨e0, e1, e2, e3, e4⟩ := hx1
      have f0 := esc_pair (hel 0 (by omega)) e0.symm
      have f1 := esc_pair (hel 1 (by omega)) e1.symm
      have f2 := esc_pair (hel 2 (by omega)) e2.symm
      have f3 := esc_pair (hel 3 (by omega)) e3.symm
      have f4 := esc_pair (hel 4 (by omega)) e4.symm
      match cs.toList, hl, f0, f1, f2, f3, f4 with
      | [a0, a1, a2, a3, a4, a5, a6, a7, a8, a9], _, f0, f1, f2, f3, f4 =>
        simp only [List.drop_zero, List.take_succ_cons, List.take_zero, List.drop_succ_cons, List.cons.injEq, and_true, Nat.zero_mul, Nat.one_mul, Nat.reduceMul] at f0 f1 f2 f3 f4
        rw [f0.1, f0.2, f1.1, f1.2, f2.1, f2.2, f3.1, f3.2, f4.1, f4.2]
        rfl
  have hcs' : cs = escRow := Array.toList_inj.1 hcs
  subst hcs'
  unfold World.var? at hvar
  rw [hg'] at hvar
  simp only [Option.bind_some] at hvar
  split at hvar
  · rename_i cs' t fr hb
    exact ⟨t, fr, by rw [hb, Option.some.inj hvar]⟩
  · cases hvar

theorem wlaid_of {W : World} (h0 : laidMetH Tryd.prog Rows.wordsNamesRow.laid W) : WLaid W := by
  have h : laidMet Tryd.prog Rows.wordsNamesRow.laid W := by
    rw [MakeChecks.laidMetH_plain _ _ _ (by kernel_rfl)] at h0; exact h0
  have h3 := h.tail.tail
  have h4 := h3.tail
  have h6 := h4.tail.tail
  refine ⟨esc_of_laid h6, ?_, ?_⟩
  · exact Lib.tabIs_of_head (t := 124) (e := 98) (n := 20) pow_named (by kernel_rfl) (by kernel_rfl) (by kernel_rfl) (by kernel_rfl) (by kernel_rfl) h3
  · obtain ⟨a, _, hv, _⟩ := laid_sentinel (ti := 47) (tp := 132) (te := 134) (ts := 9) h4 err_named (by kernel_rfl) Tryd.underlying47 row_es Tryd.underlying132 Tryd.underlying134 rfl rfl Tryd.underlying9 (by kernel_rfl) (by kernel_rfl)
    exact ⟨_, _, hv⟩
end Go.Proofs.YtbjfpmklmhgbdaaDoor
