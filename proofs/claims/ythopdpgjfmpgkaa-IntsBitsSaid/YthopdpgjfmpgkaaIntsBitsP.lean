/- IntsBits returns true for all numbers, places and numbers of bits; what it was handed reads behind the call as it read before it. Conditions: none. -/
import Derived.Test.YthopdpgjfmpgkaaIntsPost
namespace Go.Proofs.Ythopdpgjfmpgkaa
open Go.Joins Go.ChangeShapes Go.WideShapes Go.ChangeAt Go.RowKit Go.Deep
theorem types_bits : ∀ t ∈ [44], Try.prog.readableRec t = true ∧ t < Try.prog.types.size := by
  intro t ht
  simp only [List.mem_cons, List.not_mem_nil, or_false] at ht
  subst ht
  exact ⟨by kernel_rfl, of_decide_eq_true (by kernel_rfl)⟩
/-- A struct of five cells, by value: what each of them reads as. -/
theorem five_parts {H : Type} {enc : TypeId × Value → H} {P : Program} {w : World} {base b0 : Nat} {spare : Nat → Bool} {held : Bool} {r : Reach} {t : TypeId} {f0 f1 f2 f3 f4 : Field} {v : Value} {d : DataW H} {p : List MemPlace}
    (hs : P.underlying t = some (.struct #[f0, f1, f2, f3, f4])) (hone : oneCellFields P #[f0, f1, f2, f3, f4] = true) (hC : P.cellsOf t = 5) (hv : Value.okWide P w r b0 t v) (h : DataW.Trod enc P w base spare held t v d p) :
    ∃ (c : Nat → Value) (y : Nat → DataW H × List MemPlace) (n : Nat), v = .agg #[c 0, c 1, c 2, c 3, c 4] ∧ d = .agg [(y 0).1, (y 1).1, (y 2).1, (y 3).1, (y 4).1] ∧
      DataW.trod enc P w base spare held n f0.type [c 0] = some (y 0) ∧ DataW.trod enc P w base spare held n f1.type [c 1] = some (y 1) ∧ DataW.trod enc P w base spare held n f2.type [c 2] = some (y 2) ∧ DataW.trod enc P w base spare held n f3.type [c 3] = some (y 3) ∧ DataW.trod enc P w base spare held n f4.type [c 4] = some (y 4) := by
  obtain ⟨cs, rfl, hsz⟩ := okWide_struct hs hv
  obtain ⟨fuel, hf⟩ := h
  obtain ⟨xs, n, _, hx, _, hlen, hg⟩ := DataW.trod_struct hs hf
  obtain ⟨l⟩ := cs
  match l, hsz.trans hC, xs, hlen with
  | [c0, c1, c2, c3, c4], _, [y0, y1, y2, y3, y4], _ =>
    refine ⟨fun i => ([c0, c1, c2, c3, c4].getD i undef), fun i => ([y0, y1, y2, y3, y4].getD i y0), n, rfl, by simpa using (Prod.mk.inj hx).1, ?_, ?_, ?_, ?_, ?_⟩
    · obtain ⟨o, k⟩ := hone_of hone 0 f0 rfl; simpa [Value.cells, o, k] using hg 0 f0 rfl
    · obtain ⟨o, k⟩ := hone_of hone 1 f1 rfl; simpa [Value.cells, o, k] using hg 1 f1 rfl
    · obtain ⟨o, k⟩ := hone_of hone 2 f2 rfl; simpa [Value.cells, o, k] using hg 2 f2 rfl
    · obtain ⟨o, k⟩ := hone_of hone 3 f3 rfl; simpa [Value.cells, o, k] using hg 3 f3 rfl
    · obtain ⟨o, k⟩ := hone_of hone 4 f4 rfl; simpa [Value.cells, o, k] using hg 4 f4 rfl
/-- What the struct of five numbers is. -/
theorem open_bits {H : Type} {enc : TypeId × Value → H} {W : World} {base : Nat} {v0 : Value} {d0 : DataW H} {p : List MemPlace} (hv : Value.okWide Try.prog W .any base 44 v0) (h : DataW.Trod enc Try.prog W 0 (fun _ => true) true 44 v0 d0 p) :
    ∃ (N V : Nat) (a m k : Int), v0 = .agg #[.int .u64 N, .int .u64 V, .int .i64 a, .int .i64 m, .int .i64 k] ∧ N < 18446744073709551616 ∧ V < 18446744073709551616 ∧ (-9223372036854775808 ≤ a ∧ a ≤ 9223372036854775807) ∧ (-9223372036854775808 ≤ m ∧ m ≤ 9223372036854775807) ∧ (-9223372036854775808 ≤ k ∧ k ≤ 9223372036854775807) := by
  obtain ⟨c, y, n, rfl, _, g0, g1, g2, g3, g4⟩ := five_parts Try.underlying44 (by kernel_rfl) (by kernel_rfl) hv h
  obtain ⟨N, e0, _, w0⟩ := DataW.trod_int Try.underlying23 g0
  obtain ⟨V, e1, _, w1⟩ := DataW.trod_int Try.underlying23 g1
  obtain ⟨a, e2, _, w2⟩ := DataW.trod_int Try.underlying3 g2
  obtain ⟨m, e3, _, w3⟩ := DataW.trod_int Try.underlying3 g3
  obtain ⟨k, e4, _, w4⟩ := DataW.trod_int Try.underlying3 g4
  simp only [List.cons.injEq, and_true] at e0 e1 e2 e3 e4
  have b0 := bounds_u64 w0
  have b1 := bounds_u64 w1
  refine ⟨N.toNat, V.toNat, a, m, k, ?_, by omega, by omega, bounds_i64 w2, bounds_i64 w3, bounds_i64 w4⟩
  rw [e0, e1, e2, e3, e4, Int.toNat_of_nonneg b0.1, Int.toNat_of_nonneg b1.1]
set_option maxRecDepth 100000 in
theorem bits_lifted (os : Os) (started : os.Started) (H : Type) (enc : TypeId × Value → H) :
    ReturnsInHanded {} Try.checked os 6 .any (Rows.intsBitsSpec.pre6 enc Try.prog Try.f6 Rows.intsBitsRow.domain false) (Rows.intsBitsSpec.post enc Try.prog Try.f6 false true false false) := by
  refine returnsInHanded_of_change (C := Try.checked) own_none started (by kernel_rfl) Try.func6
    (ChangeSpec.witness6 (enc := enc) (C := Try.checked) false ⟨#[], #[.agg #[.int .u64 0, .int .u64 0, .int .i64 0, .int .i64 0, .int .i64 0]], []⟩ 8 (by kernel_rfl) (by kernel_rfl) (by kernel_rfl) (by kernel_rfl)) ?_
  intro W base args ds gs before hval0 hW hcnd _
  have hval : ∀ (j : Nat) t v, Try.f6.params[j]? = some t → args[j]? = some v → Value.okWide Try.prog W .any base t v := hval0
  have hW' := hW
  obtain ⟨p, q, hA0, hV, rfl, hfz, hnd⟩ := hW
  have hA : DataW.TrodAll enc Try.prog W 0 (fun _ => true) true Try.f6.params.toList args.toList ds p := hA0
  rw [Try.params6] at hA hval
  obtain ⟨rfl, rfl⟩ := trodVars_none hV
  simp only [List.append_nil] at hW'
  have hst := fun W' hb => stays_all (W' := W') laid_out hb _ types_bits _ _ _ hA hW'.lt
  obtain ⟨v0, d0, rfl, rfl, h0⟩ := trodAll_one hA
  obtain ⟨N, V, a, m, k, rfl, hN, hVV, _, hm, _⟩ := open_bits (hval 0 _ v0 rfl rfl) h0
  clear hA0 hval0
  refine (IntsBits_walk N V a m k hN hVV hm.1 hm.2 W).mono fun e W' ⟨he, hw⟩ => ?_
  subst he
  exact ⟨_, rfl, post_below (pv := []) hW' (fun _ _ _ => trodAll_mk1 (shut_bool Try.underlying4 _)) (fun sp hsp => hst W' hw sp hsp) (fun _ _ => rfl) (by simp) hw (ok_one (by kernel_rfl) rfl (okWide_bool_mk Try.underlying4 _))⟩
theorem intsBits_holds : Rows.IntsBitsSaid :=
  OpenClaim.holds_of_wide 6 Try.f6 rfl rfl rfl rfl rfl rfl rfl ⟨rfl, rfl, rfl, rfl, rfl⟩ rfl rfl rfl rfl rfl (by kernel_rfl) Try.func6 (by kernel_rfl)
    (of_decide_eq_true (by kernel_rfl)) (by unfold Func.isWrapper; first | (rw [if_pos (by decide +kernel)]; kernel_rfl) | (rw [if_neg (by decide +kernel)]; exact ⟨rfl, rfl⟩))
    (fun os started H enc _ => bits_lifted os started H enc)
end Go.Proofs.Ythopdpgjfmpgkaa
