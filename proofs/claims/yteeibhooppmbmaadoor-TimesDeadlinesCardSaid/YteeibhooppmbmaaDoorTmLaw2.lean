/- The walk of TimesDeadlines. -/
import Derived.Test.YteeibhooppmbmaaDoorTmLaw1
namespace Go.Proofs.YteeibhooppmbmaaDoor
open Go.RowKit
set_option linter.unusedSimpArgs false
set_option maxRecDepth 100000
theorem T.addV_eq {t d : Int} (ht : 0 ≤ t) (hd : 0 ≤ d) : addV t d = min (t + d) 9223372036854775807 ∧ badE t d = 0 := by
  refine ⟨?_, if_pos ⟨ht, hd⟩⟩
  unfold addV
  rw [if_pos ⟨ht, hd⟩]
  split <;> omega
theorem Add_yes {t d v : Int} (ht : T.R64 t) (hd : T.R64 d) (h0 : 0 ≤ t) (h1 : 0 ≤ d) (hv : min (t + d) 9223372036854775807 = v) (w : World) :
    Calls Tryd.prog 10 #[.int .i64 t, .int .i64 d] w fun e w' => e = .returned (.tuple #[.int .i64 v, .int .i64 0]) ∧ Below w.heap.size w w' := by
  have := Add_any t d ht hd w
  obtain ⟨e1, e2⟩ := T.addV_eq h0 h1
  rw [e1, e2, hv] at this
  exact this
theorem deadlines_awake (w : World) (hT : Tab w) (t a b : Int) (h : t < 0 ∨ a < 0 ∨ b < 0) :
    Calls Tryd.prog 6 #[.int .i64 t, .int .i64 a, .int .i64 b] w fun e w' => e = .returned (.bool true) ∧ Below w.heap.size w w' := by
  have HW := Lib.hid (awake_any w hT)
  clear hT
  by_cases h1 : t < 0
  · clear h
    go_enter Tryd.func6, Tryd.ntmps6
    go_wp2_with fail
    refine HW.out.mono ?_
    rintro e w5 ⟨rfl, hb⟩
    go_wp2_with fail
    go_ret
    exact ⟨rfl, hb⟩
  · by_cases h2 : a < 0
    · clear h
      go_enter Tryd.func6, Tryd.ntmps6
      go_wp2_with fail
      refine HW.out.mono ?_
      rintro e w5 ⟨rfl, hb⟩
      go_wp2_with fail
      go_ret
      exact ⟨rfl, hb⟩
    · have h3 : b < 0 := by omega
      clear h
      go_enter Tryd.func6, Tryd.ntmps6
      go_wp2_with fail
      refine HW.out.mono ?_
      rintro e w5 ⟨rfl, hb⟩
      go_wp2_with fail
      go_ret
      exact ⟨rfl, hb⟩
set_option maxHeartbeats 4000000 in
theorem deadlines_yes (t a b : Int) (ht : T.R64 t) (ha : T.R64 a) (hb : T.R64 b) (t0 : 0 ≤ t) (a0 : 0 ≤ a) (b0 : 0 ≤ b) (w : World) (hT : Tab w) (P : Bool) (hP : P = (a == 0 || t == 9223372036854775807)) :
    Calls Tryd.prog 6 #[.int .i64 t, .int .i64 a, .int .i64 b] w fun e w' => e = .returned (.bool true) ∧ Below w.heap.size w w' := by
  have HT := Lib.hid hT
  unfold T.R64 at ht ha hb
  obtain ⟨x, hx⟩ : ∃ x, min (t + a) 9223372036854775807 = x := ⟨_, rfl⟩
  obtain ⟨y, hy⟩ : ∃ y, min (x + b) 9223372036854775807 = y := ⟨_, rfl⟩
  obtain ⟨s, hs⟩ : ∃ s, min (a + b) 9223372036854775807 = s := ⟨_, rfl⟩
  obtain ⟨mo, hmo⟩ : ∃ mo, min (t + max a b) 9223372036854775807 = mo := ⟨_, rfl⟩
  have rx : 0 ≤ x ∧ x ≤ 9223372036854775807 := by omega
  have rs : 0 ≤ s ∧ s ≤ 9223372036854775807 := by omega
  have rm : 0 ≤ max a b ∧ max a b ≤ 9223372036854775807 := by omega
  have A1 := Lib.hid (fun w => Add_yes (r64_of ht) (r64_of ha) t0 a0 hx w)
  have A2 := Lib.hid (fun w => Add_yes (t := x) (r64_of (by omega)) (r64_of hb) rx.1 b0 hy w)
  have A3 := Lib.hid (fun w => Add_yes (r64_of ha) (r64_of hb) a0 b0 hs w)
  have A4 := Lib.hid (fun w => Add_yes (d := s) (v := y) (r64_of ht) (r64_of (by omega)) t0 rs.1 (by omega) w)
  have A5 := Lib.hid (fun w => Add_yes (v := x) (r64_of ha) (r64_of ht) a0 t0 (by omega) w)
  have A6 := Lib.hid (fun w => Add_yes (d := max a b) (r64_of ht) (r64_of (by omega)) t0 rm.1 hmo w)
  have A7 := Lib.hid (fun w => Passed_any x t (r64_of (by omega)) (r64_of ht) w)
  have hpb : T.passB x t = P := by
    rw [hP]
    unfold T.passB
    rw [Bool.eq_iff_iff, decide_eq_true_iff, Bool.or_eq_true, beq_iff_eq, beq_iff_eq]
    omega
  rw [show T.badE x t = 0 from if_pos ⟨rx.1, t0⟩, hpb] at A7
  unfold T.prB at A7
  have c1 : ¬ x < t := by omega
  have c2 : ¬ x < a := by omega
  have c3 : ¬ y < x := by omega
  have c4 : x ≤ mo := by omega
  have n1 : ¬ t < 0 := by omega
  have n2 : ¬ a < 0 := by omega
  have n3 : ¬ b < 0 := by omega
  have HP := Lib.hid hP
  clear hT hx hy hs hmo rx rs rm hpb hP ht ha hb t0 a0 b0
  go_enter Tryd.func6, Tryd.ntmps6
  go_wp2_with fail
  refine (A1.out _).mono ?_
  rintro e w1 ⟨rfl, hb1⟩
  go_wp2_with fail
  refine (A2.out _).mono ?_
  rintro e w2 ⟨rfl, h⟩
  have hb2 := bt hb1 hb1.size h
  clear h hb1
  go_wp2_with fail
  refine (A3.out _).mono ?_
  rintro e w3 ⟨rfl, h⟩
  have hb3 := bt hb2 hb2.size h
  clear h hb2
  go_wp2_with fail
  refine (A4.out _).mono ?_
  rintro e w4 ⟨rfl, h⟩
  have hb4 := bt hb3 hb3.size h
  clear h hb3
  go_wp2_with fail
  refine (A5.out _).mono ?_
  rintro e w5 ⟨rfl, h⟩
  have hb5 := bt hb4 hb4.size h
  clear h hb4
  go_wp2_with fail
  refine (A6.out _).mono ?_
  rintro e w6 ⟨rfl, h⟩
  have hb6 := bt hb5 hb5.size h
  clear h hb5
  go_wp2_with fail
  refine (A7.out _).mono ?_
  rintro e w7 ⟨rfl, h⟩
  have hb7 := bt hb6 hb6.size h
  have HW := Lib.hid (awake_any w7 (HT.out.on hb7))
  clear h hb6
  have hPo := HP.out
  clear HP A1 A2 A3 A4 A5 A6 A7
  cases q1 : (a == (0 : Int))
  · cases q2 : (t == (9223372036854775807 : Int))
    · have hPt : P = false := by rw [hPo, q1, q2]; rfl
      clear hPo
      subst hPt
      go_wp2_with fail
      refine HW.out.mono ?_
      rintro e w8 ⟨rfl, h⟩
      have hb8 := bt hb7 hb7.size h
      go_wp2_with fail
      go_ret
      exact ⟨rfl, hb8⟩
    · have hPt : P = true := by rw [hPo, q1, q2]; rfl
      have e0 : t = 9223372036854775807 := by simpa using q2
      clear hPo q2
      subst hPt e0
      go_wp2_with fail
      refine HW.out.mono ?_
      rintro e w8 ⟨rfl, h⟩
      have hb8 := bt hb7 hb7.size h
      go_wp2_with fail
      go_ret
      exact ⟨rfl, hb8⟩
  · have hPt : P = true := by rw [hPo, q1]; rfl
    have e0 : a = 0 := by simpa using q1
    clear hPo q1
    subst hPt e0
    go_wp2_with fail
    refine HW.out.mono ?_
    rintro e w8 ⟨rfl, h⟩
    have hb8 := bt hb7 hb7.size h
    go_wp2_with fail
    go_ret
    exact ⟨rfl, hb8⟩
theorem TimesDeadlines_walk (t a b : Int) (ht : T.R64 t) (ha : T.R64 a) (hb : T.R64 b) (w : World) (hT : Tab w) :
    Calls Tryd.prog 6 #[.int .i64 t, .int .i64 a, .int .i64 b] w fun e w' => e = .returned (.bool true) ∧ Below w.heap.size w w' := by
  by_cases h : t < 0 ∨ a < 0 ∨ b < 0
  · exact deadlines_awake w hT t a b h
  · exact deadlines_yes t a b ht ha hb (by omega) (by omega) (by omega) w hT _ rfl
end Go.Proofs.YteeibhooppmbmaaDoor
