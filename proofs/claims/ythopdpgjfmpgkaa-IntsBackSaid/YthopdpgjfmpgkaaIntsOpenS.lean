/- Structs of numbers, by value, opened. -/
import Derived.Test.YthopdpgjfmpgkaaIntsPost
namespace Go.Proofs.Ythopdpgjfmpgkaa
open Go.Joins Go.ChangeShapes Go.WideShapes Go.ChangeAt Go.RowKit Go.Deep
/-- A struct of five cells, by value: what each of them reads as. -/
theorem five_parts {H : Type} {enc : TypeId × Value → H} {P : Program} {w : World} {base b0 : Nat} {spare : Nat → Bool} {held : Bool} {r : Reach} {t : TypeId} {f0 f1 f2 f3 f4 : Field} {v : Value} {d : DataW H} {p : List MemPlace}
    (hs : P.underlying t = some (.struct #[f0, f1, f2, f3, f4])) (hone : oneCellFields P #[f0, f1, f2, f3, f4] = true) (hC : P.cellsOf t = 5) (hv : Value.okWide P w r b0 t v) (h : DataW.Trod enc P w base spare held t v d p) :
    ∃ (c : Nat → Value) (y : Nat → DataW H × List MemPlace) (n : Nat), v = .agg #[c 0, c 1, c 2, c 3, c 4] ∧ d = .agg [(y 0).1, (y 1).1, (y 2).1, (y 3).1, (y 4).1] ∧
      DataW.trod enc P w base spare held n f0.type [c 0] = some (y 0) ∧ DataW.trod enc P w base spare held n f1.type [c 1] = some (y 1) ∧ DataW.trod enc P w base spare held n f2.type [c 2] = some (y 2) ∧ DataW.trod enc P w base spare held n f3.type [c 3] = some (y 3) ∧ DataW.trod enc P w base spare held n f4.type [c 4] = some (y 4) := by
  obtain ⟨cs, rfl, hsz⟩ := okWide_struct hs hv
  obtain ⟨fuel, hf⟩ := h
  obtain ⟨xs, n, _, hx, _, hlen, hg⟩ := DataW.trod_struct hs hf
  obtain ⟨l⟩ := cs
  match l, hsz.trans hC, xs, hlen with
  | [c0, c1, c2, c3, c4], _, [y0, y1, y2, y3, y4], _ =>
    refine ⟨fun i => ([c0, c1, c2, c3, c4].getD i undef), fun i => ([y0, y1, y2, y3, y4].getD i y0), n, rfl, by simpa using (Prod.mk.inj hx).1, ?_, ?_, ?_, ?_, ?_⟩
    · obtain ⟨o, k⟩ := hone_of hone 0 f0 rfl; simpa [Value.cells, o, k] using hg 0 f0 rfl
    · obtain ⟨o, k⟩ := hone_of hone 1 f1 rfl; simpa [Value.cells, o, k] using hg 1 f1 rfl
    · obtain ⟨o, k⟩ := hone_of hone 2 f2 rfl; simpa [Value.cells, o, k] using hg 2 f2 rfl
    · obtain ⟨o, k⟩ := hone_of hone 3 f3 rfl; simpa [Value.cells, o, k] using hg 3 f3 rfl
    · obtain ⟨o, k⟩ := hone_of hone 4 f4 rfl; simpa [Value.cells, o, k] using hg 4 f4 rfl
/-- What the struct of five numbers is. -/
theorem open_bits {H : Type} {enc : TypeId × Value → H} {W : World} {base : Nat} {v0 : Value} {d0 : DataW H} {p : List MemPlace} (hv : Value.okWide Try.prog W .any base 44 v0) (h : DataW.Trod enc Try.prog W 0 (fun _ => true) true 44 v0 d0 p) :
    ∃ (N V : Nat) (a m k : Int), v0 = .agg #[.int .u64 N, .int .u64 V, .int .i64 a, .int .i64 m, .int .i64 k] ∧ N < 18446744073709551616 ∧ V < 18446744073709551616 ∧ (-9223372036854775808 ≤ a ∧ a ≤ 9223372036854775807) ∧ (-9223372036854775808 ≤ m ∧ m ≤ 9223372036854775807) ∧ (-9223372036854775808 ≤ k ∧ k ≤ 9223372036854775807) := by
  obtain ⟨c, y, n, rfl, _, g0, g1, g2, g3, g4⟩ := five_parts Try.underlying44 (by kernel_rfl) (by kernel_rfl) hv h
  obtain ⟨N, e0, _, w0⟩ := DataW.trod_int Try.underlying23 g0
  obtain ⟨V, e1, _, w1⟩ := DataW.trod_int Try.underlying23 g1
  obtain ⟨a, e2, _, w2⟩ := DataW.trod_int Try.underlying3 g2
  obtain ⟨m, e3, _, w3⟩ := DataW.trod_int Try.underlying3 g3
  obtain ⟨k, e4, _, w4⟩ := DataW.trod_int Try.underlying3 g4
  simp only [List.cons.injEq, and_true] at e0 e1 e2 e3 e4
  have b0 := bounds_u64 w0
  have b1 := bounds_u64 w1
  refine ⟨N.toNat, V.toNat, a, m, k, ?_, by omega, by omega, bounds_i64 w2, bounds_i64 w3, bounds_i64 w4⟩
  rw [e0, e1, e2, e3, e4, Int.toNat_of_nonneg b0.1, Int.toNat_of_nonneg b1.1]
/-- What the number, as it is and as bits, is. -/
theorem open_number {H : Type} {enc : TypeId × Value → H} {W : World} {base : Nat} {v0 : Value} {d0 : DataW H} {p : List MemPlace} (hv : Value.okWide Try.prog W .any base 37 v0) (h : DataW.Trod enc Try.prog W 0 (fun _ => true) true 37 v0 d0 p) :
    ∃ (n : Int) (U : Nat) (b : Int) (sg : Bool), v0 = .agg #[.int .i64 n, .int .u64 U, .int .i64 b, .bool sg] ∧ (-9223372036854775808 ≤ n ∧ n ≤ 9223372036854775807) ∧ U < 18446744073709551616 := by
  obtain ⟨x0, x1, x2, x3, y0, y1, y2, y3, n, rfl, rfl, rfl, g0, g1, g2, g3⟩ := open_agg4 Try.underlying37 (by kernel_rfl) (by kernel_rfl) hv h
  obtain ⟨a, e0, _, wa⟩ := DataW.trod_int Try.underlying2 g0
  obtain ⟨u, e1, _, wu⟩ := DataW.trod_int Try.underlying23 g1
  obtain ⟨b, e2, _, wb⟩ := DataW.trod_int Try.underlying3 g2
  obtain ⟨sg, e3, _⟩ := DataW.trod_bool Try.underlying4 g3
  simp only [List.cons.injEq, and_true] at e0 e1 e2 e3
  have bu := bounds_u64 wu
  refine ⟨a, u.toNat, b, sg, ?_, bounds_i64 wa, by omega⟩
  rw [e0, e1, e2, e3, Int.toNat_of_nonneg bu.1]
end Go.Proofs.Ythopdpgjfmpgkaa
