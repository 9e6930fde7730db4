/- Contracts of package ints and its reference: Add, Mul and Shift. -/
import Derived.Test.YthopdpgjfmpgkaaInts6
import Derived.Test.YthopdpgjfmpgkaaShelf
namespace Go.Proofs.Ythopdpgjfmpgkaa
open Go.RowKit
namespace I
def clamp (x : Int) : Int := if x < -9223372036854775808 then -9223372036854775808 else if 9223372036854775807 < x then 9223372036854775807 else x
theorem clamp_lo {x : Int} (h : x < -9223372036854775808) : clamp x = -9223372036854775808 := by unfold clamp; rw [if_pos h]
theorem clamp_hi {x : Int} (h : 9223372036854775807 < x) : clamp x = 9223372036854775807 := by unfold clamp; rw [if_neg (by omega), if_pos h]
theorem clamp_in {x : Int} (h : -9223372036854775808 ≤ x) (h' : x ≤ 9223372036854775807) : clamp x = x := by unfold clamp; rw [if_neg (by omega), if_neg (by omega)]
theorem clamp_bd (x : Int) : -9223372036854775808 ≤ clamp x ∧ clamp x ≤ 9223372036854775807 := by unfold clamp; split; omega; split <;> omega
end I
set_option maxHeartbeats 400000 in
theorem addWithin_any (a b : Int) (ha1 : -9223372036854775808 ≤ a) (ha2 : a ≤ 9223372036854775807) (hb1 : -9223372036854775808 ≤ b) (hb2 : b ≤ 9223372036854775807) (w : World) :
    Calls Try.prog 49 #[.int .i64 a, .int .i64 b, .int .i64 (-9223372036854775808), .int .i64 9223372036854775807] w fun e w' => e = .returned (.int .i64 (I.clamp (a + b))) ∧ w = w' := by
  by_cases h1 : a + b < -9223372036854775808
  · have HC := Lib.hid (I.clamp_lo h1)
    have h2 : b < 0 := by omega
    have h3 : ¬ 0 < b := by omega
    have h4 : a < -9223372036854775808 - b := by omega
    go_enter Try.func49, Try.ntmps49
    go_wp2_with fail
    go_ret
    exact ⟨I.ret_i64 HC.out, rfl⟩
  · by_cases h2 : 9223372036854775807 < a + b
    · have HC := Lib.hid (I.clamp_hi h2)
      have h3 : 0 < b := by omega
      have h4 : 9223372036854775807 - b < a := by omega
      go_enter Try.func49, Try.ntmps49
      go_wp2_with fail
      go_ret
      exact ⟨I.ret_i64 HC.out, rfl⟩
    · have HC := Lib.hid (I.clamp_in (x := a + b) (by omega) (by omega))
      by_cases h3 : 0 < b
      · have h4 : ¬ 9223372036854775807 - b < a := by omega
        go_enter Try.func49, Try.ntmps49
        go_wp2_with fail
        go_ret
        exact ⟨I.ret_i64 HC.out, rfl⟩
      · by_cases h4 : b < 0
        · have h5 : ¬ a < -9223372036854775808 - b := by omega
          go_enter Try.func49, Try.ntmps49
          go_wp2_with fail
          go_ret
          exact ⟨I.ret_i64 HC.out, rfl⟩
        · go_enter Try.func49, Try.ntmps49
          go_wp2_with fail
          go_ret
          exact ⟨I.ret_i64 HC.out, rfl⟩
set_option maxHeartbeats 400000 in
theorem Add_any (a b : Int) (ha1 : -9223372036854775808 ≤ a) (ha2 : a ≤ 9223372036854775807) (hb1 : -9223372036854775808 ≤ b) (hb2 : b ≤ 9223372036854775807) (w : World) :
    Calls Try.prog 35 #[.int .i64 a, .int .i64 b] w fun e w' => e = .returned (.int .i64 (I.clamp (a + b))) ∧ w = w' := by
  go_enter Try.func35, Try.ntmps35
  go_wp2_with fail
  refine (addWithin_any a b ha1 ha2 hb1 hb2 _).mono ?_
  rintro e w' ⟨rfl, rfl⟩
  go_wp2_with fail
  go_ret
  exact ⟨rfl, rfl⟩
set_option maxHeartbeats 400000 in
theorem RAdd_any (a b : Int) (ha1 : -9223372036854775808 ≤ a) (ha2 : a ≤ 9223372036854775807) (hb1 : -9223372036854775808 ≤ b) (hb2 : b ≤ 9223372036854775807) (w : World) :
    Calls Try.prog 36 #[.int .i64 a, .int .i64 b] w fun e w' => e = .returned (.int .i64 (I.clamp (a + b))) ∧ w = w' := by
  by_cases h1 : a + b < -9223372036854775808
  · have HC := Lib.hid (I.clamp_lo h1)
    have h2 : b < 0 := by omega
    have h3 : ¬ 0 < b := by omega
    have h4 : a < -9223372036854775808 - b := by omega
    go_enter Try.func36, Try.ntmps36
    go_wp2_with fail
    go_ret
    exact ⟨I.ret_i64 HC.out, rfl⟩
  · by_cases h2 : 9223372036854775807 < a + b
    · have HC := Lib.hid (I.clamp_hi h2)
      have h3 : 0 < b := by omega
      have h4 : 9223372036854775807 - b < a := by omega
      go_enter Try.func36, Try.ntmps36
      go_wp2_with fail
      go_ret
      exact ⟨I.ret_i64 HC.out, rfl⟩
    · have HC := Lib.hid (I.clamp_in (x := a + b) (by omega) (by omega))
      by_cases h3 : 0 < b
      · have h4 : ¬ 9223372036854775807 - b < a := by omega
        go_enter Try.func36, Try.ntmps36
        go_wp2_with fail
        go_ret
        exact ⟨I.ret_i64 HC.out, rfl⟩
      · by_cases h4 : b < 0
        · have h5 : ¬ a < -9223372036854775808 - b := by omega
          go_enter Try.func36, Try.ntmps36
          go_wp2_with fail
          go_ret
          exact ⟨I.ret_i64 HC.out, rfl⟩
        · go_enter Try.func36, Try.ntmps36
          go_wp2_with fail
          go_ret
          exact ⟨I.ret_i64 HC.out, rfl⟩
set_option maxHeartbeats 400000 in
theorem size_any (a : Int) (A : Nat) (hA : a.natAbs = A) (ha1 : -9223372036854775808 ≤ a) (ha2 : a ≤ 9223372036854775807) (w : World) :
    Calls Try.prog 51 #[.int .i64 a] w fun e w' => e = .returned (.int .u64 A) ∧ w = w' := by
  have HA := Lib.hid hA
  clear hA
  by_cases h : a < 0
  all_goals
    go_enter Try.func51, Try.ntmps51
    go_wp2_with fail
    go_ret
    refine ⟨I.ret_u64 ?_, rfl⟩
    have := HA.out
    (try simp only [I.wrap_u64])
    omega
set_option maxHeartbeats 400000 in
theorem rsize_any (a : Int) (A : Nat) (hA : a.natAbs = A) (ha1 : -9223372036854775808 ≤ a) (ha2 : a ≤ 9223372036854775807) (w : World) :
    Calls Try.prog 53 #[.int .i64 a] w fun e w' => e = .returned (.int .u64 A) ∧ w = w' := by
  have HA := Lib.hid hA
  clear hA
  by_cases h : a < 0
  all_goals
    go_enter Try.func53, Try.ntmps53
    go_wp2_with fail
    go_ret
    refine ⟨I.ret_u64 ?_, rfl⟩
    have := HA.out
    (try simp only [I.wrap_u64])
    omega
set_option maxHeartbeats 400000 in
theorem limit_any (l : Bool) (w : World) :
    Calls Try.prog 52 #[.bool l] w fun e w' => e = .returned (.int .i64 (if l = true then -9223372036854775808 else 9223372036854775807)) ∧ w = w' := by
  cases l
  all_goals
    go_enter Try.func52, Try.ntmps52
    go_wp2_with fail
    go_ret
    exact ⟨rfl, rfl⟩
end Go.Proofs.Ythopdpgjfmpgkaa
