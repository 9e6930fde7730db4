/- Contracts of package ints and of its reference: what is asked of numbers of bits; sets of bits that are all 1. -/
import Derived.Test.YthopdpgjfmpgkaaIntsMath
import Derived.WalkSpells
import Derived.WalkLawsBesides
import Derived.Lib.Hide
import Derived.Laws.BitsAllLaws
namespace Go.Proofs.Ythopdpgjfmpgkaa
open Go.RowKit

namespace I
theorem ret_bool {a b : Bool} (h : b = a) : Ending.returned (.bool a) = .returned (.bool b) := by rw [h]
theorem ret_u64 {a b : Int} (h : b = a) : Ending.returned (.int .u64 a) = .returned (.int .u64 b) := by rw [h]
theorem wrap_u64 (n : Int) : IntKind.u64.wrap n = n % 18446744073709551616 := by simp [IntKind.wrap, IntKind.bits, IntKind.signed]
theorem ones_eq (b : Nat) (h : b ≤ 64) : IntKind.u64.wrap (IntKind.u64.wrap (2 ^ b) - 1) = ((2 ^ b - 1 : Nat) : Int) := by
  rw [wrap_u64, wrap_u64, cast_pow]
  have hp := pow_pos b
  have hl := pow_le_64 h
  omega
theorem fits_eq (N b : Nat) : (((N : Int) / 2 ^ b) == 0) = decide (N < 2 ^ b) := by
  rw [cast_pow, ← Int.natCast_ediv]
  have hp := pow_pos b
  rw [Bool.eq_iff_iff]
  simp only [beq_iff_eq, decide_eq_true_eq]
  constructor
  · intro h0
    have : N / 2 ^ b = 0 := by exact_mod_cast h0
    exact (Nat.div_eq_zero_iff_lt hp).1 this
  · intro h0
    rw [Nat.div_eq_of_lt h0]; rfl
theorem below_eq {N b M : Nat} (h : M = N / 2 ^ b) : ((M : Int) == 0) = decide (N < 2 ^ b) := by rw [h, ← fits_eq, cast_pow, ← Int.natCast_ediv]
theorem half_of {N k M : Nat} (h : M = N / 2 ^ k) : M / 2 = N / 2 ^ (k + 1) := by rw [h, half_step]
theorem val_u64 {a b : Int} (h : a = b) : Value.int .u64 a = .int .u64 b := by rw [h]
end I

set_option maxHeartbeats 400000 in
theorem isBits_any (b : Int) (w : World) :
    Calls Try.prog 46 #[.int .i64 b] w fun e w' => e = .returned (.bool (decide (1 ≤ b) && decide (b ≤ 64))) ∧ w = w' := by
  by_cases h1 : 1 ≤ b <;> by_cases h2 : b ≤ 64
  all_goals
    go_enter Try.func46, Try.ntmps46
    go_wp2
    go_ret
    exact ⟨by simp [h1, h2], rfl⟩

set_option maxHeartbeats 400000 in
theorem isWidth_any (b : Int) (w : World) :
    Calls Try.prog 41 #[.int .i64 b] w fun e w' => e = .returned (.bool (decide (1 ≤ b) && decide (b ≤ 8))) ∧ w = w' := by
  by_cases h1 : 1 ≤ b <;> by_cases h2 : b ≤ 8
  all_goals
    go_enter Try.func41, Try.ntmps41
    go_wp2
    go_ret
    exact ⟨by simp [h1, h2], rfl⟩

set_option maxHeartbeats 400000 in
theorem ones_any (b : Nat) (h : b ≤ 64) (w : World) :
    Calls Try.prog 47 #[.int .i64 b] w fun e w' => e = .returned (.int .u64 ((2 ^ b - 1 : Nat) : Int)) ∧ w = w' := by
  have HE := Lib.hid (I.ones_eq b h)
  have h0 : (0 : Int) ≤ b := by omega
  go_enter Try.func47, Try.ntmps47
  go_wp2
  go_ret
  exact ⟨I.ret_u64 HE.out.symm, rfl⟩

set_option maxHeartbeats 400000 in
theorem fits_any (N b : Nat) (h : b ≤ 64) (w : World) :
    Calls Try.prog 42 #[.int .u64 N, .int .i64 b] w fun e w' => e = .returned (.bool (decide (N < 2 ^ b))) ∧ w = w' := by
  have HE := Lib.hid (I.fits_eq N b)
  have h0 : (0 : Int) ≤ b := by omega
  go_enter Try.func42, Try.ntmps42
  go_wp2
  go_ret
  exact ⟨I.ret_bool HE.out.symm, rfl⟩

set_option maxHeartbeats 400000 in
theorem isField_any (a m : Int) (w : World) :
    Calls Try.prog 48 #[.int .i64 a, .int .i64 m] w fun e w' => e = .returned (.bool (decide (0 ≤ a ∧ a < 64 ∧ 1 ≤ m ∧ m ≤ 64 - a))) ∧ w = w' := by
  by_cases h3 : 0 ≤ a <;> by_cases h4 : a < 64 <;> by_cases h5 : 1 ≤ m <;> by_cases h6 : m ≤ 64 - a
  all_goals
    go_enter Try.func48, Try.ntmps48
    go_wp2
    go_ret
    exact ⟨by simp [h3, h4, h5, h6], rfl⟩

set_option maxHeartbeats 400000 in
theorem below_any (N b : Nat) (hN : N < 18446744073709551616) (hb : b ≤ 64) (w : World) :
    Calls Try.prog 45 #[.int .u64 N, .int .i64 b] w fun e w' => e = .returned (.bool (decide (N < 2 ^ b))) ∧ w = w' := by
  go_enter Try.func45, Try.ntmps45
  go_wp2
  go_loop [0, 5] (fun n i => ∃ k M : Nat, k ≤ b ∧ i = .int .i64 k ∧ n = .int .u64 M ∧ M < 18446744073709551616 ∧ Hid (M = N / 2 ^ k)) (fun _ i => b - (intOf i).toNat)
  case atStart => exact ⟨0, N, Nat.zero_le _, rfl, rfl, hN, Lib.hid (by simp)⟩
  case round =>
    obtain ⟨k, M, hk, rfl, rfl, hM, HM⟩ := hrel
    by_cases hlt : k < b
    · go_wp2
      go_round
      case rel => exact ⟨k + 1, M / 2, by omega, by go_num, I.val_u64 (by omega), by omega, Lib.hid (I.half_of HM.out)⟩
      case measure => simp [intOf]; omega
    · obtain rfl : k = b := by omega
      go_wp2
      go_ret
      exact ⟨I.ret_bool (I.below_eq HM.out).symm, rfl⟩
end Go.Proofs.Ythopdpgjfmpgkaa
