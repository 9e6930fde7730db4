/- Contracts of the times' numbers, of package times and of its reference: areTimes, Add, Left, Passed, Advance, Check. -/
import Derived.Test.YtnehllkklmdpfaaDoorTmMath2
import Derived.Test.YtnehllkklmdpfaaDoorProg
import Derived.ProofKit
import Derived.WalkKit
import Derived.IntWalk
namespace Go.Proofs.YtnehllkklmdpfaaDoor
open Go.RowKit
set_option linter.unusedSimpArgs false
namespace T
/-- Numbers of 64 bits. -/
def R64 (x : Int) : Prop := -9223372036854775808 ≤ x ∧ x ≤ 9223372036854775807
def two (x y : Int) : Bool := decide (0 ≤ x ∧ 0 ≤ y)
theorem two_yes {x y : Int} (h : two x y = true) : 0 ≤ x ∧ 0 ≤ y := of_decide_eq_true h
theorem two_no {x y : Int} (h : two x y = false) : ¬ (0 ≤ x ∧ 0 ≤ y) := of_decide_eq_false h
def addV (t d : Int) : Int := if 0 ≤ t ∧ 0 ≤ d then (if t + d ≤ 9223372036854775807 then t + d else 9223372036854775807) else 0
def badE (x y : Int) : Int := if 0 ≤ x ∧ 0 ≤ y then 0 else 7
def leftV (d n : Int) : Int := if 0 ≤ d ∧ 0 ≤ n ∧ n < d then d - n else 0
def passB (d n : Int) : Bool := decide (0 ≤ d ∧ 0 ≤ n ∧ d ≤ n)
def advV (n t : Int) : Int := if 0 ≤ n ∧ 0 ≤ t ∧ n ≤ t then t else 0
def advE (n t : Int) : Int := if 0 ≤ n ∧ 0 ≤ t then (if t < n then 18 else 0) else 7
def checkE (x y : Int) : Int := if 0 ≤ x ∧ 0 ≤ y then (if x < y then 0 else 6) else 7
/-- A pair of a number and an error. -/
def pr (v e : Int) : Ending := .returned (.tuple #[.int .i64 v, .int .i64 e])
end T
theorem ret_bool {a b : Bool} (h : a = b) : Ending.returned (.bool a) = .returned (.bool b) := by rw [h]
set_option maxRecDepth 100000 in
theorem areTimes_two (x y : Int) (g c : Nat) (w : World) (h0 : w.cell? ⟨g, 0, none⟩ = some (.int .i64 x)) (h1 : w.cell? ⟨g, 1, none⟩ = some (.int .i64 y)) :
    Calls Tryd.prog 36 #[.slice (some ⟨g, 0, none⟩) 2 c] w fun e w' => e = .returned (.bool (T.two x y)) ∧ w' = w := by
  by_cases hx : x < 0
  · have H : Hid (T.two x y = false) := Lib.hid (by unfold T.two; simp; omega)
    go_enter Tryd.func36, Tryd.ntmps36
    go_wp2_with fail
    refine wp_loop_rounds 3 ?_
    rw [rounds_succ]
    go_wp2_with fail
    go_ret
    exact ⟨ret_bool H.out.symm, rfl⟩
  · by_cases hy : y < 0
    · have H : Hid (T.two x y = false) := Lib.hid (by unfold T.two; simp; omega)
      go_enter Tryd.func36, Tryd.ntmps36
      go_wp2_with fail
      refine wp_loop_rounds 3 ?_
      rw [rounds_succ]
      go_wp2_with fail
      rw [rounds_succ]
      go_wp2_with fail
      go_ret
      exact ⟨ret_bool H.out.symm, rfl⟩
    · have H : Hid (T.two x y = true) := Lib.hid (by unfold T.two; simp; omega)
      go_enter Tryd.func36, Tryd.ntmps36
      go_wp2_with fail
      refine wp_loop_rounds 3 ?_
      rw [rounds_succ]
      go_wp2_with fail
      rw [rounds_succ]
      go_wp2_with fail
      rw [rounds_succ]
      go_wp2_with fail
      go_ret
      exact ⟨ret_bool H.out.symm, rfl⟩
set_option maxRecDepth 100000 in
theorem areTimes_one (x : Int) (g c : Nat) (w : World) (h0 : w.cell? ⟨g, 0, none⟩ = some (.int .i64 x)) :
    Calls Tryd.prog 36 #[.slice (some ⟨g, 0, none⟩) 1 c] w fun e w' => e = .returned (.bool (decide (0 ≤ x))) ∧ w' = w := by
  by_cases hx : x < 0
  · have H : Hid (decide (0 ≤ x) = false) := Lib.hid (by simp; omega)
    go_enter Tryd.func36, Tryd.ntmps36
    go_wp2_with fail
    refine wp_loop_rounds 2 ?_
    rw [rounds_succ]
    go_wp2_with fail
    go_ret
    exact ⟨ret_bool H.out.symm, rfl⟩
  · have H : Hid (decide (0 ≤ x) = true) := Lib.hid (by simp; omega)
    go_enter Tryd.func36, Tryd.ntmps36
    go_wp2_with fail
    refine wp_loop_rounds 2 ?_
    rw [rounds_succ]
    go_wp2_with fail
    rw [rounds_succ]
    go_wp2_with fail
    go_ret
    exact ⟨ret_bool H.out.symm, rfl⟩
theorem made_two (w : World) (x y : Int) (t : TypeId) : (w.alloc (.cells #[.int .i64 x, .int .i64 y] t)).cell? ⟨w.heap.size, 0, none⟩ = some (.int .i64 x) ∧ (w.alloc (.cells #[.int .i64 x, .int .i64 y] t)).cell? ⟨w.heap.size, 1, none⟩ = some (.int .i64 y) := by
  constructor <;> simp
/-- The call of areTimes with two numbers, behind the alloc of their slice. -/
theorem areTimes_made (x y : Int) (t : TypeId) (c : Nat) (w : World) :
    Calls Tryd.prog 36 #[.slice (some ⟨w.heap.size, 0, none⟩) 2 c] (w.alloc (.cells #[.int .i64 x, .int .i64 y] t)) fun e w' => e = .returned (.bool (T.two x y)) ∧ w.alloc (.cells #[.int .i64 x, .int .i64 y] t) = w' :=
  (areTimes_two x y _ c _ (made_two w x y t).1 (made_two w x y t).2).mono fun _ _ h => ⟨h.1, h.2.symm⟩
theorem below_new (w : World) (o : Obj) : Below w.heap.size w (w.alloc o) := (Below.refl _ _).alloc (Nat.le_refl _) _
set_option maxRecDepth 100000 in
theorem Add_any (t d : Int) (ht : T.R64 t) (hd : T.R64 d) (w : World) :
    Calls Tryd.prog 10 #[.int .i64 t, .int .i64 d] w fun e w' => e = T.pr (T.addV t d) (T.badE t d) ∧ Below w.heap.size w w' := by
  unfold T.R64 at ht hd
  have HB := Lib.hid (below_new w)
  cases h : T.two t d
  · have h2 := T.two_no h
    have HV : Hid (T.pr (T.addV t d) (T.badE t d) = .returned (.tuple #[.int .i64 0, .int .i64 7])) := Lib.hid (by unfold T.pr T.addV T.badE; rw [if_neg h2, if_neg h2])
    have H := Lib.hid h
    clear h h2
    go_enter Tryd.func10, Tryd.ntmps10
    go_wp2_with fail
    refine (areTimes_made t d _ _ _).mono ?_
    rintro e w' ⟨rfl, rfl⟩
    rw [H.out]
    go_wp2_with fail
    go_ret2
    exact ⟨HV.out.symm, HB.out _⟩
  · have h2 := T.two_yes h
    have H := Lib.hid h
    have hs : IntKind.i64.wrap (9223372036854775807 - t) = 9223372036854775807 - t := IntWalk.i64_in _ (by omega)
    by_cases hlt : t + d ≤ 9223372036854775807
    · have HV : Hid (T.pr (T.addV t d) (T.badE t d) = .returned (.tuple #[.int .i64 (t + d), .int .i64 0])) := Lib.hid (by unfold T.pr T.addV T.badE; rw [if_pos h2, if_pos h2, if_pos hlt])
      have hm : d ≤ 9223372036854775807 - t := by omega
      have hs2 : IntKind.i64.wrap (t + d) = t + d := IntWalk.i64_in _ (by omega)
      clear h
      go_enter Tryd.func10, Tryd.ntmps10
      go_wp2_with fail
      refine (areTimes_made t d _ _ _).mono ?_
      rintro e w' ⟨rfl, rfl⟩
      rw [H.out]
      go_wp2_with fail
      go_ret2
      exact ⟨HV.out.symm, HB.out _⟩
    · have HV : Hid (T.pr (T.addV t d) (T.badE t d) = .returned (.tuple #[.int .i64 9223372036854775807, .int .i64 0])) := Lib.hid (by unfold T.pr T.addV T.badE; rw [if_pos h2, if_pos h2, if_neg hlt])
      have hm : ¬ d ≤ 9223372036854775807 - t := by omega
      have hs2 : IntKind.i64.wrap (t + (9223372036854775807 - t)) = 9223372036854775807 := by rw [show t + (9223372036854775807 - t) = 9223372036854775807 by omega]; exact IntWalk.i64_in _ (by omega)
      clear h
      go_enter Tryd.func10, Tryd.ntmps10
      go_wp2_with fail
      refine (areTimes_made t d _ _ _).mono ?_
      rintro e w' ⟨rfl, rfl⟩
      rw [H.out]
      go_wp2_with fail
      go_ret2
      exact ⟨HV.out.symm, HB.out _⟩
set_option maxRecDepth 100000 in
theorem Left_any (d n : Int) (hd : T.R64 d) (hn : T.R64 n) (w : World) :
    Calls Tryd.prog 14 #[.int .i64 d, .int .i64 n] w fun e w' => e = T.pr (T.leftV d n) (T.badE d n) ∧ Below w.heap.size w w' := by
  unfold T.R64 at hd hn
  have HB := Lib.hid (below_new w)
  cases h : T.two d n
  · have h2 := T.two_no h
    have HV : Hid (T.pr (T.leftV d n) (T.badE d n) = .returned (.tuple #[.int .i64 0, .int .i64 7])) := Lib.hid (by unfold T.pr T.leftV T.badE; rw [if_neg (by omega), if_neg h2])
    have H := Lib.hid h
    clear h h2
    go_enter Tryd.func14, Tryd.ntmps14
    go_wp2_with fail
    refine (areTimes_made d n _ _ _).mono ?_
    rintro e w' ⟨rfl, rfl⟩
    rw [H.out]
    go_wp2_with fail
    go_ret2
    exact ⟨HV.out.symm, HB.out _⟩
  · have h2 := T.two_yes h
    have H := Lib.hid h
    have hs : IntKind.i64.wrap (d - n) = d - n := IntWalk.i64_in _ (by omega)
    by_cases hlt : n < d
    · have HV : Hid (T.pr (T.leftV d n) (T.badE d n) = .returned (.tuple #[.int .i64 (d - n), .int .i64 0])) := Lib.hid (by unfold T.pr T.leftV T.badE; rw [if_pos (by omega), if_pos h2])
      have hm : ¬ d - n ≤ 0 := by omega
      clear h
      go_enter Tryd.func14, Tryd.ntmps14
      go_wp2_with fail
      refine (areTimes_made d n _ _ _).mono ?_
      rintro e w' ⟨rfl, rfl⟩
      rw [H.out]
      go_wp2_with fail
      go_ret2
      exact ⟨HV.out.symm, HB.out _⟩
    · have HV : Hid (T.pr (T.leftV d n) (T.badE d n) = .returned (.tuple #[.int .i64 0, .int .i64 0])) := Lib.hid (by unfold T.pr T.leftV T.badE; rw [if_neg (by omega), if_pos h2])
      clear h
      by_cases he : d = n
      · subst he
        have hz : d - d = 0 := by omega
        go_enter Tryd.func14, Tryd.ntmps14
        go_wp2_with fail
        refine (areTimes_made d d _ _ _).mono ?_
        rintro e w' ⟨rfl, rfl⟩
        rw [H.out]
        go_wp2_with fail
        all_goals
          go_ret2
          exact ⟨HV.out.symm, HB.out _⟩
      · have hm : ¬ 0 ≤ d - n := by omega
        go_enter Tryd.func14, Tryd.ntmps14
        go_wp2_with fail
        refine (areTimes_made d n _ _ _).mono ?_
        rintro e w' ⟨rfl, rfl⟩
        rw [H.out]
        go_wp2_with fail
        go_ret2
        exact ⟨HV.out.symm, HB.out _⟩
/-- A truth and an error. -/
def T.prB (b : Bool) (e : Int) : Ending := .returned (.tuple #[.bool b, .int .i64 e])
set_option maxRecDepth 100000 in
theorem Passed_any (d n : Int) (hd : T.R64 d) (hn : T.R64 n) (w : World) :
    Calls Tryd.prog 12 #[.int .i64 d, .int .i64 n] w fun e w' => e = T.prB (T.passB d n) (T.badE d n) ∧ Below w.heap.size w w' := by
  have HC := Lib.hid (fun w => Left_any d n hd hn w)
  obtain ⟨v, hv⟩ : ∃ v, T.leftV d n = v := ⟨_, rfl⟩
  by_cases h2 : 0 ≤ d ∧ 0 ≤ n
  · have hE : T.badE d n = 0 := if_pos h2
    rw [hv, hE] at HC
    rw [hE]
    by_cases h3 : d ≤ n
    · have hP : Hid (T.passB d n = true) := Lib.hid (by unfold T.passB; simp; omega)
      obtain rfl : v = 0 := by rw [← hv]; unfold T.leftV; rw [if_neg (by omega)]
      clear hv hE
      go_enter Tryd.func12, Tryd.ntmps12
      go_wp2_with fail
      refine (HC.out _).mono ?_
      rintro e w' ⟨rfl, hb⟩
      unfold T.pr
      go_wp2_with fail
      go_ret2
      rw [hP.out]
      exact ⟨rfl, hb⟩
    · have hP : Hid (T.passB d n = false) := Lib.hid (by unfold T.passB; simp; omega)
      have hv0 : (v == (0 : Int)) = false := by
        have : v ≠ 0 := by rw [← hv]; unfold T.leftV; rw [if_pos (by omega)]; omega
        simpa using this
      clear hv hE
      go_enter Tryd.func12, Tryd.ntmps12
      go_wp2_with fail
      refine (HC.out _).mono ?_
      rintro e w' ⟨rfl, hb⟩
      unfold T.pr
      go_wp2_with fail
      go_ret2
      rw [hP.out]
      exact ⟨rfl, hb⟩
  · have hE : T.badE d n = 7 := if_neg h2
    rw [hv, hE] at HC
    rw [hE]
    have hP : Hid (T.passB d n = false) := Lib.hid (by unfold T.passB; simp; omega)
    clear hv hE
    go_enter Tryd.func12, Tryd.ntmps12
    go_wp2_with fail
    refine (HC.out _).mono ?_
    rintro e w' ⟨rfl, hb⟩
    unfold T.pr
    go_wp2_with fail
    go_ret2
    rw [hP.out]
    exact ⟨rfl, hb⟩
set_option maxRecDepth 100000 in
theorem Advance_any (n t : Int) (w : World) :
    Calls Tryd.prog 16 #[.int .i64 n, .int .i64 t] w fun e w' => e = T.pr (T.advV n t) (T.advE n t) ∧ Below w.heap.size w w' := by
  have HB := Lib.hid (below_new w)
  cases h : T.two n t
  · have h2 := T.two_no h
    have HV : Hid (T.pr (T.advV n t) (T.advE n t) = .returned (.tuple #[.int .i64 0, .int .i64 7])) := Lib.hid (by unfold T.pr T.advV T.advE; rw [if_neg (by omega), if_neg h2])
    have H := Lib.hid h
    clear h h2
    go_enter Tryd.func16, Tryd.ntmps16
    go_wp2_with fail
    refine (areTimes_made n t _ _ _).mono ?_
    rintro e w' ⟨rfl, rfl⟩
    rw [H.out]
    go_wp2_with fail
    go_ret2
    exact ⟨HV.out.symm, HB.out _⟩
  · have h2 := T.two_yes h
    have H := Lib.hid h
    by_cases hlt : t < n
    · have HV : Hid (T.pr (T.advV n t) (T.advE n t) = .returned (.tuple #[.int .i64 0, .int .i64 18])) := Lib.hid (by unfold T.pr T.advV T.advE; rw [if_neg (by omega), if_pos h2, if_pos hlt])
      clear h
      go_enter Tryd.func16, Tryd.ntmps16
      go_wp2_with fail
      refine (areTimes_made n t _ _ _).mono ?_
      rintro e w' ⟨rfl, rfl⟩
      rw [H.out]
      go_wp2_with fail
      go_ret2
      exact ⟨HV.out.symm, HB.out _⟩
    · have HV : Hid (T.pr (T.advV n t) (T.advE n t) = .returned (.tuple #[.int .i64 t, .int .i64 0])) := Lib.hid (by unfold T.pr T.advV T.advE; rw [if_pos (by omega), if_pos h2, if_neg hlt])
      clear h
      go_enter Tryd.func16, Tryd.ntmps16
      go_wp2_with fail
      refine (areTimes_made n t _ _ _).mono ?_
      rintro e w' ⟨rfl, rfl⟩
      rw [H.out]
      go_wp2_with fail
      go_ret2
      exact ⟨HV.out.symm, HB.out _⟩
set_option maxRecDepth 100000 in
theorem Check_any (x y : Int) (w : World) :
    Calls Tryd.prog 22 #[.agg #[.int .i64 x, .int .i64 y]] w fun e w' => e = .returned (.int .i64 (T.checkE x y)) ∧ Below w.heap.size w w' := by
  have HB : Hid (∀ o o' : Obj, Below w.heap.size w ((w.alloc o).alloc o')) := Lib.hid (fun o o' => (below_new w o).alloc (below_new w o).size o')
  cases h : T.two x y
  · have h2 := T.two_no h
    have HV : Hid (T.checkE x y = 7) := Lib.hid (by unfold T.checkE; rw [if_neg h2])
    have H := Lib.hid h
    clear h h2
    go_enter Tryd.func22, Tryd.ntmps22
    go_wp2_with fail
    refine (areTimes_two x y (w.heap.size + 1) _ _ (by simp) (by simp)).mono ?_
    rintro e w' ⟨rfl, rfl⟩
    rw [H.out]
    go_wp2_with fail
    go_ret
    rw [HV.out]
    exact ⟨rfl, HB.out _ _⟩
  · have h2 := T.two_yes h
    have H := Lib.hid h
    by_cases hlt : x < y
    · have HV : Hid (T.checkE x y = 0) := Lib.hid (by unfold T.checkE; rw [if_pos h2, if_pos hlt])
      have hge : ¬ y ≤ x := by omega
      clear h
      go_enter Tryd.func22, Tryd.ntmps22
      go_wp2_with fail
      refine (areTimes_two x y (w.heap.size + 1) _ _ (by simp) (by simp)).mono ?_
      rintro e w' ⟨rfl, rfl⟩
      rw [H.out]
      go_wp2_with fail
      go_ret
      rw [HV.out]
      exact ⟨rfl, HB.out _ _⟩
    · have HV : Hid (T.checkE x y = 6) := Lib.hid (by unfold T.checkE; rw [if_pos h2, if_neg hlt])
      have hge : y ≤ x := by omega
      clear h hlt
      go_enter Tryd.func22, Tryd.ntmps22
      go_wp2_with fail
      refine (areTimes_two x y (w.heap.size + 1) _ _ (by simp) (by simp)).mono ?_
      rintro e w' ⟨rfl, rfl⟩
      rw [H.out]
      go_wp2_with fail
      go_ret
      rw [HV.out]
      exact ⟨rfl, HB.out _ _⟩
end Go.Proofs.YtnehllkklmdpfaaDoor
