/- Contracts of the reference's numbers: both, Add, Passed, Left, Advance, Check. -/
import Derived.Test.YtnehllkklmdpfaaDoorTmVals
namespace Go.Proofs.YtnehllkklmdpfaaDoor
open Go.RowKit
set_option linter.unusedSimpArgs false
set_option maxRecDepth 100000
theorem Rboth_any (a b : Int) (w : World) : Calls Tryd.prog 37 #[.int .i64 a, .int .i64 b] w fun e w' => e = .returned (.int .i64 (T.badE a b)) ∧ w = w' := by
  by_cases h1 : a < 0
  · have H : Hid (T.badE a b = 7) := Lib.hid (if_neg (by omega))
    go_enter Tryd.func37, Tryd.ntmps37
    go_wp2_with fail
    go_ret
    rw [H.out]
    exact ⟨rfl, rfl⟩
  · by_cases h2 : b < 0
    · have H : Hid (T.badE a b = 7) := Lib.hid (if_neg (by omega))
      go_enter Tryd.func37, Tryd.ntmps37
      go_wp2_with fail
      go_ret
      rw [H.out]
      exact ⟨rfl, rfl⟩
    · have H : Hid (T.badE a b = 0) := Lib.hid (if_pos (by omega))
      go_enter Tryd.func37, Tryd.ntmps37
      go_wp2_with fail
      go_ret
      rw [H.out]
      exact ⟨rfl, rfl⟩
theorem Rboth_yes {a b : Int} (h : 0 ≤ a ∧ 0 ≤ b) (w : World) : Calls Tryd.prog 37 #[.int .i64 a, .int .i64 b] w fun e w' => e = .returned (.int .i64 0) ∧ w = w' := by
  have := Rboth_any a b w
  rwa [show T.badE a b = 0 from if_pos h] at this
theorem Rboth_no {a b : Int} (h : ¬ (0 ≤ a ∧ 0 ≤ b)) (w : World) : Calls Tryd.prog 37 #[.int .i64 a, .int .i64 b] w fun e w' => e = .returned (.int .i64 7) ∧ w = w' := by
  have := Rboth_any a b w
  rwa [show T.badE a b = 7 from if_neg h] at this
theorem RAdd_any (t d : Int) (ht : T.R64 t) (hd : T.R64 d) (w : World) :
    Calls Tryd.prog 11 #[.int .i64 t, .int .i64 d] w fun e w' => e = T.pr (T.addV t d) (T.badE t d) ∧ w = w' := by
  unfold T.R64 at ht hd
  by_cases h2 : 0 ≤ t ∧ 0 ≤ d
  · have hs : IntKind.i64.wrap (9223372036854775807 - d) = 9223372036854775807 - d := IntWalk.i64_in _ (by omega)
    have HB := Lib.hid (Rboth_yes h2)
    by_cases hlt : t + d ≤ 9223372036854775807
    · have HV : Hid (T.pr (T.addV t d) (T.badE t d) = .returned (.tuple #[.int .i64 (t + d), .int .i64 0])) := Lib.hid (by unfold T.pr T.addV T.badE; rw [if_pos h2, if_pos h2, if_pos hlt])
      have hm : ¬ 9223372036854775807 - d < t := by omega
      have hs2 : IntKind.i64.wrap (t + d) = t + d := IntWalk.i64_in _ (by omega)
      go_enter Tryd.func11, Tryd.ntmps11
      go_wp2_with fail
      refine (HB.out _).mono ?_
      rintro e w' ⟨rfl, rfl⟩
      go_wp2_with fail
      go_ret2
      exact ⟨HV.out.symm, rfl⟩
    · have HV : Hid (T.pr (T.addV t d) (T.badE t d) = .returned (.tuple #[.int .i64 9223372036854775807, .int .i64 0])) := Lib.hid (by unfold T.pr T.addV T.badE; rw [if_pos h2, if_pos h2, if_neg hlt])
      have hm : 9223372036854775807 - d < t := by omega
      go_enter Tryd.func11, Tryd.ntmps11
      go_wp2_with fail
      refine (HB.out _).mono ?_
      rintro e w' ⟨rfl, rfl⟩
      go_wp2_with fail
      go_ret2
      exact ⟨HV.out.symm, rfl⟩
  · have HB := Lib.hid (Rboth_no h2)
    have HV : Hid (T.pr (T.addV t d) (T.badE t d) = .returned (.tuple #[.int .i64 0, .int .i64 7])) := Lib.hid (by unfold T.pr T.addV T.badE; rw [if_neg h2, if_neg h2])
    clear h2
    go_enter Tryd.func11, Tryd.ntmps11
    go_wp2_with fail
    refine (HB.out _).mono ?_
    rintro e w' ⟨rfl, rfl⟩
    go_wp2_with fail
    go_ret2
    exact ⟨HV.out.symm, rfl⟩
theorem RPassed_any (d n : Int) (w : World) :
    Calls Tryd.prog 13 #[.int .i64 d, .int .i64 n] w fun e w' => e = T.prB (T.passB d n) (T.badE d n) ∧ w = w' := by
  by_cases h2 : 0 ≤ d ∧ 0 ≤ n
  · have HB := Lib.hid (Rboth_yes h2)
    by_cases hlt : d ≤ n
    · have HV : Hid (T.prB (T.passB d n) (T.badE d n) = .returned (.tuple #[.bool true, .int .i64 0])) := Lib.hid (by unfold T.prB T.passB T.badE; rw [if_pos h2, decide_eq_true (by omega)])
      go_enter Tryd.func13, Tryd.ntmps13
      go_wp2_with fail
      refine (HB.out _).mono ?_
      rintro e w' ⟨rfl, rfl⟩
      go_wp2_with fail
      go_ret2
      exact ⟨HV.out.symm, rfl⟩
    · have HV : Hid (T.prB (T.passB d n) (T.badE d n) = .returned (.tuple #[.bool (decide (d ≤ n)), .int .i64 0])) := Lib.hid (by unfold T.prB T.passB T.badE; rw [if_pos h2, decide_eq_false (by omega), decide_eq_false hlt])
      go_enter Tryd.func13, Tryd.ntmps13
      go_wp2_with fail
      refine (HB.out _).mono ?_
      rintro e w' ⟨rfl, rfl⟩
      go_wp2_with fail
      go_ret2
      exact ⟨HV.out.symm, rfl⟩
  · have HB := Lib.hid (Rboth_no h2)
    have HV : Hid (T.prB (T.passB d n) (T.badE d n) = .returned (.tuple #[.bool false, .int .i64 7])) := Lib.hid (by unfold T.prB T.passB T.badE; rw [if_neg h2, decide_eq_false (by omega)])
    clear h2
    go_enter Tryd.func13, Tryd.ntmps13
    go_wp2_with fail
    refine (HB.out _).mono ?_
    rintro e w' ⟨rfl, rfl⟩
    go_wp2_with fail
    go_ret2
    exact ⟨HV.out.symm, rfl⟩
theorem RLeft_any (d n : Int) (hd : T.R64 d) (hn : T.R64 n) (w : World) :
    Calls Tryd.prog 15 #[.int .i64 d, .int .i64 n] w fun e w' => e = T.pr (T.leftV d n) (T.badE d n) ∧ w = w' := by
  unfold T.R64 at hd hn
  have HC := Lib.hid (fun w => RPassed_any d n w)
  by_cases h2 : 0 ≤ d ∧ 0 ≤ n
  · have e0 : T.badE d n = 0 := if_pos h2
    rw [e0] at HC ⊢
    by_cases hlt : d ≤ n
    · rw [show T.passB d n = true from decide_eq_true (by omega)] at HC
      have HV : Hid (T.leftV d n = 0) := Lib.hid (if_neg (by omega))
      clear e0
      go_enter Tryd.func15, Tryd.ntmps15
      go_wp2_with fail
      refine (HC.out _).mono ?_
      rintro e w' ⟨rfl, rfl⟩
      unfold T.prB
      go_wp2_with fail
      go_ret2
      rw [HV.out]
      exact ⟨rfl, rfl⟩
    · rw [show T.passB d n = false from decide_eq_false (by omega)] at HC
      have HV : Hid (T.leftV d n = d - n) := Lib.hid (if_pos (by omega))
      have hs : IntKind.i64.wrap (d - n) = d - n := IntWalk.i64_in _ (by omega)
      clear e0
      go_enter Tryd.func15, Tryd.ntmps15
      go_wp2_with fail
      refine (HC.out _).mono ?_
      rintro e w' ⟨rfl, rfl⟩
      unfold T.prB
      go_wp2_with fail
      go_ret2
      rw [HV.out]
      exact ⟨rfl, rfl⟩
  · have e0 : T.badE d n = 7 := if_neg h2
    rw [e0, show T.passB d n = false from decide_eq_false (by omega)] at HC
    rw [e0]
    have HV : Hid (T.leftV d n = 0) := Lib.hid (if_neg (by omega))
    clear e0 h2
    go_enter Tryd.func15, Tryd.ntmps15
    go_wp2_with fail
    refine (HC.out _).mono ?_
    rintro e w' ⟨rfl, rfl⟩
    unfold T.prB
    go_wp2_with fail
    go_ret2
    rw [HV.out]
    exact ⟨rfl, rfl⟩
theorem RAdvance_any (n t : Int) (w : World) :
    Calls Tryd.prog 17 #[.int .i64 n, .int .i64 t] w fun e w' => e = T.pr (T.advV n t) (T.advE n t) ∧ w = w' := by
  by_cases h2 : 0 ≤ n ∧ 0 ≤ t
  · have HB := Lib.hid (Rboth_yes h2)
    by_cases hlt : t < n
    · have HV : Hid (T.pr (T.advV n t) (T.advE n t) = .returned (.tuple #[.int .i64 0, .int .i64 18])) := Lib.hid (by unfold T.pr T.advV T.advE; rw [if_neg (by omega), if_pos h2, if_pos hlt])
      go_enter Tryd.func17, Tryd.ntmps17
      go_wp2_with fail
      refine (HB.out _).mono ?_
      rintro e w' ⟨rfl, rfl⟩
      go_wp2_with fail
      go_ret2
      exact ⟨HV.out.symm, rfl⟩
    · have HV : Hid (T.pr (T.advV n t) (T.advE n t) = .returned (.tuple #[.int .i64 t, .int .i64 0])) := Lib.hid (by unfold T.pr T.advV T.advE; rw [if_pos (by omega), if_pos h2, if_neg hlt])
      go_enter Tryd.func17, Tryd.ntmps17
      go_wp2_with fail
      refine (HB.out _).mono ?_
      rintro e w' ⟨rfl, rfl⟩
      go_wp2_with fail
      go_ret2
      exact ⟨HV.out.symm, rfl⟩
  · have HB := Lib.hid (Rboth_no h2)
    have HV : Hid (T.pr (T.advV n t) (T.advE n t) = .returned (.tuple #[.int .i64 0, .int .i64 7])) := Lib.hid (by unfold T.pr T.advV T.advE; rw [if_neg (by omega), if_neg h2])
    clear h2
    go_enter Tryd.func17, Tryd.ntmps17
    go_wp2_with fail
    refine (HB.out _).mono ?_
    rintro e w' ⟨rfl, rfl⟩
    go_wp2_with fail
    go_ret2
    exact ⟨HV.out.symm, rfl⟩
theorem RCheck_any (x y : Int) (w : World) :
    Calls Tryd.prog 23 #[.agg #[.int .i64 x, .int .i64 y]] w fun e w' => e = .returned (.int .i64 (T.checkE x y)) ∧ Below w.heap.size w w' := by
  have HN := Lib.hid (below_new w)
  by_cases h2 : 0 ≤ x ∧ 0 ≤ y
  · have HB := Lib.hid (Rboth_yes h2)
    by_cases hlt : x < y
    · have HV : Hid (T.checkE x y = 0) := Lib.hid (by unfold T.checkE; rw [if_pos h2, if_pos hlt])
      have hge : ¬ y ≤ x := by omega
      go_enter Tryd.func23, Tryd.ntmps23
      go_wp2_with fail
      refine (HB.out _).mono ?_
      rintro e w' ⟨rfl, rfl⟩
      go_wp2_with fail
      go_ret
      rw [HV.out]
      exact ⟨rfl, HN.out _⟩
    · have HV : Hid (T.checkE x y = 6) := Lib.hid (by unfold T.checkE; rw [if_pos h2, if_neg hlt])
      have hge : y ≤ x := by omega
      clear hlt
      go_enter Tryd.func23, Tryd.ntmps23
      go_wp2_with fail
      refine (HB.out _).mono ?_
      rintro e w' ⟨rfl, rfl⟩
      go_wp2_with fail
      go_ret
      rw [HV.out]
      exact ⟨rfl, HN.out _⟩
  · have HB := Lib.hid (Rboth_no h2)
    have HV : Hid (T.checkE x y = 7) := Lib.hid (by unfold T.checkE; rw [if_neg h2])
    clear h2
    go_enter Tryd.func23, Tryd.ntmps23
    go_wp2_with fail
    refine (HB.out _).mono ?_
    rintro e w' ⟨rfl, rfl⟩
    go_wp2_with fail
    go_ret
    rw [HV.out]
    exact ⟨rfl, HN.out _⟩
end Go.Proofs.YtnehllkklmdpfaaDoor
