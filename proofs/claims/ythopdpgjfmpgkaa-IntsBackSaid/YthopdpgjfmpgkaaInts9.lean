/- Contracts of package ints and its reference: Shift. -/
import Derived.Test.YthopdpgjfmpgkaaInts8
namespace Go.Proofs.Ythopdpgjfmpgkaa
open Go.RowKit
namespace I
def shfV (a k : Int) : Int := if k < 0 then a / ((2 ^ (-k).toNat : Nat) : Int) else clamp (a * ((2 ^ k.toNat : Nat) : Int))
theorem shf_neg {a k : Int} (h : k < 0) : shfV a k = a / ((2 ^ (-k).toNat : Nat) : Int) := by unfold shfV; rw [if_pos h]
theorem shf_pos {a : Int} (K : Nat) : shfV a K = clamp (a * ((2 ^ K : Nat) : Int)) := by unfold shfV; rw [if_neg (by omega), Int.toNat_natCast]
theorem div_small {a : Int} {p : Nat} (hp : 9223372036854775808 ≤ p) (h1 : -9223372036854775808 ≤ a) (h2 : a ≤ 9223372036854775807) : a / (p : Int) = if a < 0 then -1 else 0 := by
  by_cases h : a < 0
  · rw [if_pos h]
    have e : a = (a + p) + (-1) * p := by omega
    rw [e, Int.add_mul_ediv_right _ _ (by omega), Int.ediv_eq_zero_of_lt (by omega) (by omega)]
    rfl
  · rw [if_neg h]; exact Int.ediv_eq_zero_of_lt (by omega) (by omega)
theorem pow_ge_63 {k : Nat} (h : 63 ≤ k) : 9223372036854775808 ≤ 2 ^ k := by
  have := Nat.pow_le_pow_right (n := 2) (by decide) h
  have e : (2 : Nat) ^ 63 = 9223372036854775808 := by decide
  omega
theorem shf_far {a k : Int} (h : k ≤ -64) (h1 : -9223372036854775808 ≤ a) (h2 : a ≤ 9223372036854775807) : shfV a k = a / 18446744073709551616 := by
  rw [shf_neg (by omega), div_small (pow_ge_63 (by omega)) h1 h2]
  have := div_small (a := a) (p := 18446744073709551616) (by decide) h1 h2
  rw [← this]; rfl
/-- Shifted within the bits, and back. -/
theorem shl_fits {a : Int} {p : Nat} (hp : 0 < p) (h1 : -9223372036854775808 ≤ a * p) (h2 : a * p ≤ 9223372036854775807) : wrap64 (a * p) = a * p ∧ wrap64 (a * p) / p = a := by
  have e : wrap64 (a * p) = a * p := by unfold wrap64; omega
  exact ⟨e, by rw [e, Int.mul_ediv_cancel _ (by omega)]⟩
theorem wrap64_bd (x : Int) : -9223372036854775808 ≤ wrap64 x ∧ wrap64 x ≤ 9223372036854775807 := by unfold wrap64; omega
theorem wrap64_q (x : Int) : wrap64 x = x - 18446744073709551616 * ((x + 9223372036854775808) / 18446744073709551616) := by unfold wrap64; omega
theorem shl_not {a : Int} {p r : Nat} (hp : 0 < p) (hr : p * r = 18446744073709551616) (h : ¬ (-9223372036854775808 ≤ a * p ∧ a * p ≤ 9223372036854775807)) : wrap64 (a * p) / p ≠ a := by
  intro e
  have hb := wrap64_bd (a * p)
  have hq := wrap64_q (a * p)
  generalize (a * (p : Int) + 9223372036854775808) / 18446744073709551616 = q at hq
  have hr' : (18446744073709551616 : Int) = p * r := by rw [← Int.natCast_mul, hr]; rfl
  have e2 : wrap64 (a * p) = (a - r * q) * p := by
    rw [hq, hr', Int.sub_mul, Int.mul_assoc (p : Int), Int.mul_comm (p : Int)]
  rw [e2, Int.mul_ediv_cancel _ (by omega)] at e
  have e3 : (r : Int) * q = 0 := by omega
  have e4 : wrap64 (a * p) = a * p := by rw [e2, e3]; simp
  rw [e4] at hb
  exact h hb
theorem shf_clamp_hi {a : Int} {p : Nat} (h : 9223372036854775807 < a * p) : clamp (a * (p : Int)) = 9223372036854775807 := clamp_hi h
theorem limI_of (a x : Int) (h : ¬ (-9223372036854775808 ≤ x ∧ x ≤ 9223372036854775807)) (h1 : a < 0 → x < 0) (h2 : 0 ≤ a → 0 ≤ x) : clamp x = limI (decide (a < 0)) := by
  unfold limI
  by_cases ha : a < 0
  · rw [decide_eq_true ha, if_pos rfl]; exact clamp_lo (by have := h1 ha; omega)
  · rw [decide_eq_false ha, if_neg (by decide)]; exact clamp_hi (by have := h2 (by omega); omega)
theorem mul_sign {a : Int} {p : Nat} (hp : 0 < p) : (a < 0 → a * (p : Int) < 0) ∧ (0 ≤ a → 0 ≤ a * (p : Int)) := by
  constructor
  · intro h; exact Int.mul_neg_of_neg_of_pos h (by omega)
  · intro h; exact Int.mul_nonneg h (by omega)
theorem far_out {a : Int} {p : Nat} (h0 : a ≠ 0) (hp : 18446744073709551616 ≤ p) : ¬ (-9223372036854775808 ≤ a * (p : Int) ∧ a * (p : Int) ≤ 9223372036854775807) := by
  rintro ⟨h1, h2⟩
  by_cases h : 0 < a
  · have := Int.mul_le_mul_of_nonneg_right (show 1 ≤ a by omega) (show (0 : Int) ≤ p by omega)
    omega
  · have := Int.mul_le_mul_of_nonneg_right (show a ≤ -1 by omega) (show (0 : Int) ≤ p by omega)
    omega
theorem pow_ge_64 {k : Nat} (h : 64 ≤ k) : 18446744073709551616 ≤ 2 ^ k := by
  have := Nat.pow_le_pow_right (n := 2) (by decide) h
  have e : (2 : Nat) ^ 64 = 18446744073709551616 := by decide
  omega
theorem min_far {a k : Int} (h : k ≤ -64) : a / 2 ^ min (-k).toNat 64 = a / 18446744073709551616 := by
  have e : min (-k).toNat 64 = 64 := by omega
  rw [e]; rfl
theorem min_least (a : Int) : a / 2 ^ min (IntKind.u64.wrap (wrap64 9223372036854775808)).toNat 64 = a / 18446744073709551616 := by
  have e : wrap64 9223372036854775808 = -9223372036854775808 := by unfold wrap64; decide
  have e2 : min ((-9223372036854775808 : Int) % 18446744073709551616).toNat 64 = 64 := by decide
  rw [e, wrap_u64, e2]; rfl
theorem shl_gone {a : Int} (h : a ≠ 0) : (wrap64 (a * 18446744073709551616) / 18446744073709551616 != a) = true := by
  have e : wrap64 (a * 18446744073709551616) = 0 := by unfold wrap64; omega
  rw [e]; simpa using fun e => h e.symm
theorem bne_of {x y : Int} (h : x ≠ y) : (x != y) = true := by simpa using h
end I

set_option maxHeartbeats 400000 in
theorem Shift_neg (a k : Int) (hk : k < 0) (ha1 : -9223372036854775808 ≤ a) (ha2 : a ≤ 9223372036854775807) (hk1 : -9223372036854775808 ≤ k) (w : World) :
    Calls Try.prog 39 #[.int .i64 a, .int .i64 k] w fun e w' => e = .returned (.int .i64 (I.shfV a k)) ∧ w = w' := by
  by_cases hm : k = -9223372036854775808
  · subst hm
    have HF := Lib.hid (I.shf_far (a := a) (k := -9223372036854775808) (by omega) ha1 ha2)
    go_enter Try.func39, Try.ntmps39
    go_wp2_with fail
    go_ret
    exact ⟨I.ret_i64 (by rw [HF.out, I.min_least]), rfl⟩
  · by_cases hf : k ≤ -64
    · have HF := Lib.hid (I.shf_far (a := a) (k := k) hf ha1 ha2)
      have hk2 : -9223372036854775808 < k := by omega
      have hk0 : k ≤ 0 := by omega
      clear hm
      go_enter Try.func39, Try.ntmps39
      go_wp2_with fail
      go_ret
      exact ⟨I.ret_i64 (by rw [HF.out, I.min_far hf]), rfl⟩
    · have HF := Lib.hid (I.shf_neg (a := a) hk)
      have hk2 : -9223372036854775808 < k := by omega
      clear hm
      go_enter Try.func39, Try.ntmps39
      go_wp2_with fail
      go_ret
      exact ⟨I.ret_i64 (by rw [HF.out, I.cast_pow]), rfl⟩
set_option maxHeartbeats 400000 in
theorem Shift_pos (a : Int) (K : Nat) (ha1 : -9223372036854775808 ≤ a) (ha2 : a ≤ 9223372036854775807) (hK : (K : Int) ≤ 9223372036854775807) (w : World) :
    Calls Try.prog 39 #[.int .i64 a, .int .i64 K] w fun e w' => e = .returned (.int .i64 (I.shfV a K)) ∧ w = w' := by
  have HS := Lib.hid (I.shf_pos (a := a) K)
  by_cases hc : K ≤ 64
  · obtain ⟨p, hp⟩ : ∃ p : Nat, (2 : Nat) ^ K = p := ⟨_, rfl⟩
    have hp' : (2 : Int) ^ K = p := by rw [I.cast_pow, hp]
    have hp0 : 0 < p := by rw [← hp]; exact I.pow_pos K
    have hr : p * 2 ^ (64 - K) = 18446744073709551616 := by
      rw [← hp, ← Nat.pow_add, show K + (64 - K) = 64 by omega]
    have HP := Lib.hid hp'
    have HPn := Lib.hid hp
    by_cases hin : -9223372036854775808 ≤ a * p ∧ a * p ≤ 9223372036854775807
    · have hf := I.shl_fits hp0 hin.1 hin.2
      have HC := Lib.hid (I.clamp_in hin.1 hin.2)
      have h1 : (wrap64 (a * 2 ^ K) / 2 ^ K != a) = false := by rw [hp']; simpa using hf.2
      have HF := Lib.hid hf.1
      clear hin hf hr hp hp'
      go_enter Try.func39, Try.ntmps39
      go_wp2_with fail
      go_ret
      exact ⟨I.ret_i64 (by rw [HS.out, HPn.out, HC.out, HP.out, HF.out]), rfl⟩
    · have hf := I.shl_not hp0 hr hin
      have hsg := I.mul_sign (a := a) hp0
      have HC := Lib.hid (I.limI_of a (a * p) hin hsg.1 hsg.2)
      have h1 : (wrap64 (a * 2 ^ K) / 2 ^ K != a) = true := by rw [hp']; simpa using hf
      clear hin hf hr hp hp' hsg
      go_enter Try.func39, Try.ntmps39
      go_wp2_with fail
      refine (limit_s _ _).mono ?_
      rintro e w' ⟨rfl, rfl⟩
      go_wp2_with fail
      go_ret
      exact ⟨I.ret_i64 (by rw [HS.out, HPn.out, HC.out]), rfl⟩
  · by_cases h0 : a = 0
    · subst h0
      have HC : Hid (I.shfV 0 K = 0) := by rw [I.shf_pos]; simp; exact Lib.hid rfl
      have hK64 : 64 ≤ K := by omega
      clear hc
      go_enter Try.func39, Try.ntmps39
      go_wp2_with fail
      go_ret
      exact ⟨I.ret_i64 HC.out, rfl⟩
    · have hp := I.pow_ge_64 (show 64 ≤ K by omega)
      have hsg := I.mul_sign (a := a) (I.pow_pos K)
      have HC := Lib.hid (I.limI_of a _ (I.far_out h0 hp) hsg.1 hsg.2)
      have hK64 : 64 ≤ K := by omega
      have hb := I.shl_gone h0
      clear hc hp hsg h0
      go_enter Try.func39, Try.ntmps39
      go_wp2_with fail
      refine (limit_s _ _).mono ?_
      rintro e w' ⟨rfl, rfl⟩
      go_wp2_with fail
      go_ret
      exact ⟨I.ret_i64 (by rw [HS.out, HC.out]), rfl⟩
theorem Shift_any (a k : Int) (ha1 : -9223372036854775808 ≤ a) (ha2 : a ≤ 9223372036854775807) (hk1 : -9223372036854775808 ≤ k) (hk2 : k ≤ 9223372036854775807) (w : World) :
    Calls Try.prog 39 #[.int .i64 a, .int .i64 k] w fun e w' => e = .returned (.int .i64 (I.shfV a k)) ∧ w = w' := by
  by_cases hk : k < 0
  · exact Shift_neg a k hk ha1 ha2 hk1 w
  · obtain ⟨K, rfl⟩ := Int.eq_ofNat_of_zero_le (show 0 ≤ k by omega)
    exact Shift_pos a K ha1 ha2 hk2 w
end Go.Proofs.Ythopdpgjfmpgkaa
