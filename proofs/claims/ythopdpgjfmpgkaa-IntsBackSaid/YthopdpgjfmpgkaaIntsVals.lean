/- What Zig, Zag, Widen and Fit return, as plain integers. -/
import Derived.Test.YthopdpgjfmpgkaaInts1
namespace Go.Proofs.Ythopdpgjfmpgkaa.I
open Go.RowKit
def errV (ok : Bool) : Int := if ok = true then 0 else 7
/- Zig and Zag. -/
def zigN (n : Int) : Int := if n < 0 then -2 * n - 1 else 2 * n
def zagN (n : Nat) : Int := if n % 2 = 1 then -((n / 2 : Nat) : Int) - 1 else ((n / 2 : Nat) : Int)
theorem xor_ones (x : Nat) (h : x < 18446744073709551616) : x ^^^ 18446744073709551615 = 18446744073709551615 - x := by
  have h64 : (18446744073709551616 : Nat) = 2 ^ 64 := by decide
  have e1 : (18446744073709551615 : Nat) = 2 ^ 64 - 1 := by decide
  have e2 : (18446744073709551615 : Nat) - x = 2 ^ 64 - (x + 1) := by omega
  rw [e2, e1]
  apply Nat.eq_of_testBit_eq
  intro i
  rw [Nat.testBit_two_pow_sub_succ (h64 ▸ h), Nat.testBit_xor, Nat.testBit_two_pow_sub_one]
  by_cases hi : i < 64
  · simp [hi]
  · have : x.testBit i = false := Nat.testBit_lt_two_pow (Nat.lt_of_lt_of_le (h64 ▸ h) (Nat.pow_le_pow_right (by decide) (by omega)))
    simp [hi, this]
theorem zig_prog {n : Int} (h1 : -9223372036854775808 ≤ n) (h2 : n ≤ 9223372036854775807) :
    bits .xor .u64 (IntKind.u64.wrap (IntKind.u64.wrap n * 2)) (IntKind.u64.wrap (n / 9223372036854775808)) = zigN n := by
  rw [wrap_u64, wrap_u64, wrap_u64]
  unfold zigN
  by_cases h : n < 0
  · rw [if_pos h, u64_xor _ _ (by omega) (by omega) (by omega) (by omega)]
    have e : (n / 9223372036854775808 % 18446744073709551616).toNat = 18446744073709551615 := by omega
    rw [e, xor_ones _ (by omega)]
    omega
  · rw [if_neg h, u64_xor _ _ (by omega) (by omega) (by omega) (by omega)]
    have e : (n / 9223372036854775808 % 18446744073709551616).toNat = 0 := by omega
    rw [e, Nat.xor_zero]
    omega
theorem i64_xor_zero (x : Int) (h0 : 0 ≤ x) (h1 : x < 9223372036854775808) : bits .xor .i64 x 0 = x := by
  obtain ⟨X, rfl⟩ := Int.eq_ofNat_of_zero_le h0
  show IntKind.i64.wrap ((BitVec.ofInt 64 (X : Int) ^^^ BitVec.ofInt 64 0).toNat : Int) = _
  rw [BitVec.toNat_xor, ofInt_u64 X (by omega)]
  have : (BitVec.ofInt 64 0).toNat = 0 := by decide
  rw [this, Nat.xor_zero]
  simp [IntKind.wrap, IntKind.bits, IntKind.signed]
  omega
theorem i64_xor_ones (x : Int) (h0 : 0 ≤ x) (h1 : x < 9223372036854775808) : bits .xor .i64 x (-1) = -x - 1 := by
  obtain ⟨X, rfl⟩ := Int.eq_ofNat_of_zero_le h0
  show IntKind.i64.wrap ((BitVec.ofInt 64 (X : Int) ^^^ BitVec.ofInt 64 (-1)).toNat : Int) = _
  rw [BitVec.toNat_xor, ofInt_u64 X (by omega)]
  have : (BitVec.ofInt 64 (-1)).toNat = 18446744073709551615 := by decide
  rw [this, xor_ones _ (by omega)]
  simp [IntKind.wrap, IntKind.bits, IntKind.signed]
  omega
theorem zag_prog {n : Nat} (h : n < 18446744073709551616) :
    bits .xor .i64 ((n : Int) / 2) (wrap64 (-wrap64 (bits .and .u64 (n : Int) 1))) = zagN n := by
  have e : bits .and .u64 (n : Int) 1 = ((n % 2 : Nat) : Int) := by
    have := u64_and_nat n 1 h (by decide)
    rw [Nat.and_one_is_mod] at this
    exact this
  rw [e]
  unfold zagN
  by_cases hm : n % 2 = 1
  · rw [if_pos hm, hm]
    have : wrap64 (-wrap64 ((1 : Nat) : Int)) = -1 := by unfold wrap64; decide
    rw [this, i64_xor_ones _ (by omega) (by omega)]
    omega
  · have hm' : n % 2 = 0 := by omega
    rw [if_neg hm, hm']
    have : wrap64 (-wrap64 ((0 : Nat) : Int)) = 0 := by unfold wrap64; decide
    rw [this, i64_xor_zero _ (by omega) (by omega)]
    omega
/- Widen and Fit. -/
def widOk (N : Nat) (b : Int) (sg : Bool) : Bool := decide (1 ≤ b ∧ b ≤ 64 ∧ N < 2 ^ b.toNat ∧ (sg = true ∨ N < 9223372036854775808))
def widV (N : Nat) (b : Int) (sg : Bool) : Int := if widOk N b sg = true then (if sg = true ∧ 2 ^ (b.toNat - 1) ≤ N then (N : Int) - ((2 ^ b.toNat : Nat) : Int) else N) else 0
theorem pow_halves {b : Nat} (h : 1 ≤ b) : 2 ^ b = 2 * 2 ^ (b - 1) := by
  rw [← Nat.pow_succ']; congr 1; omega
theorem wid_prog {N b : Nat} (h1 : 1 ≤ b) (h2 : b ≤ 64) (hN : N < 2 ^ b) :
    wrap64 (IntKind.u64.wrap ((N : Int) * 2 ^ (64 - b))) / 2 ^ (64 - b) = if 2 ^ (b - 1) ≤ N then (N : Int) - ((2 ^ b : Nat) : Int) else N := by
  rw [cast_pow, wrap_u64]
  have hp := pow_pos (64 - b)
  have hm : 2 ^ (b - 1) * 2 ^ (64 - b) = 9223372036854775808 := by
    rw [← Nat.pow_add]
    have : b - 1 + (64 - b) = 63 := by omega
    rw [this]
  have hh := pow_halves h1
  generalize 2 ^ (64 - b) = p at *
  generalize 2 ^ (b - 1) = q at *
  rw [hh] at hN ⊢
  have hlt : N * p < 18446744073709551616 := by
    have := Nat.mul_lt_mul_of_pos_right hN hp
    rw [Nat.mul_assoc, hm] at this
    omega
  have e0 : (N : Int) * (p : Int) % 18446744073709551616 = ((N * p : Nat) : Int) := by
    rw [← Int.natCast_mul]; omega
  rw [e0]
  by_cases hc : q ≤ N
  · rw [if_pos hc]
    have hge : 9223372036854775808 ≤ N * p := by rw [← hm]; exact Nat.mul_le_mul_right _ hc
    have e1 : wrap64 ((N * p : Nat) : Int) = ((N : Int) - (2 * q : Nat)) * p := by
      have hm2 : ((2 * q : Nat) : Int) * p = 18446744073709551616 := by
        have : 2 * q * p = 18446744073709551616 := by rw [Nat.mul_assoc, hm]
        rw [← Int.natCast_mul, this]; rfl
      rw [Int.sub_mul, hm2, ← Int.natCast_mul]
      unfold wrap64
      omega
    rw [e1, Int.mul_ediv_cancel _ (by omega)]
  · rw [if_neg hc]
    have hl : N * p < 9223372036854775808 := by
      rw [← hm]; exact Nat.mul_lt_mul_of_pos_right (by omega) hp
    have e1 : wrap64 ((N * p : Nat) : Int) = (N : Int) * p := by
      rw [← Int.natCast_mul]
      unfold wrap64
      omega
    rw [e1, Int.mul_ediv_cancel _ (by omega)]
def fitOk (n : Int) (b : Int) (sg : Bool) : Bool := decide (1 ≤ b ∧ b ≤ 64 ∧ (if sg = true then -((2 ^ (b.toNat - 1) : Nat) : Int) ≤ n ∧ n < ((2 ^ (b.toNat - 1) : Nat) : Int) else 0 ≤ n ∧ n < ((2 ^ b.toNat : Nat) : Int)))
def fitV (n : Int) (b : Int) (sg : Bool) : Int := if fitOk n b sg = true then (if n < 0 then n + ((2 ^ b.toNat : Nat) : Int) else n) else 0
/-- What Fit writes, before it is tried. -/
def low (n : Int) (b : Nat) : Nat := (n % ((2 ^ b : Nat) : Int)).toNat
theorem low_lt (n : Int) (b : Nat) : low n b < 2 ^ b := by
  have hp := pow_pos b
  have h1 := Int.emod_lt_of_pos n (show (0 : Int) < ((2 ^ b : Nat) : Int) by omega)
  have h2 := Int.emod_nonneg n (show ((2 ^ b : Nat) : Int) ≠ 0 by omega)
  unfold low
  omega
theorem low_prog {n : Int} {b : Nat} (hb : b ≤ 64) : bits .and .u64 (IntKind.u64.wrap n) ((2 ^ b - 1 : Nat) : Int) = ((low n b : Nat) : Int) := by
  rw [wrap_u64]
  have hp := pow_pos b
  have hl := pow_le_64 hb
  rw [u64_and _ _ (by omega) (by omega) (by omega) (by omega), Int.toNat_natCast, Nat.and_two_pow_sub_one_eq_mod]
  unfold low
  have hd : ((2 ^ b : Nat) : Int) ∣ 18446744073709551616 := by
    have : (2 : Nat) ^ b ∣ 18446744073709551616 := by
      have h64 : (18446744073709551616 : Nat) = 2 ^ 64 := by decide
      rw [h64]
      exact Nat.pow_dvd_pow 2 hb
    have h := Int.natCast_dvd_natCast.2 this
    exact h
  have e : ((((n % 18446744073709551616).toNat % 2 ^ b : Nat)) : Int) = n % ((2 ^ b : Nat) : Int) := by
    rw [Int.natCast_emod]
    have : (((n % 18446744073709551616).toNat : Nat) : Int) = n % 18446744073709551616 := by omega
    rw [this, Int.emod_emod_of_dvd _ hd]
  omega
theorem low_val {n : Int} {b : Nat} (h1 : -((2 ^ b : Nat) : Int) ≤ n) (h2 : n < ((2 ^ b : Nat) : Int)) : ((low n b : Nat) : Int) = if n < 0 then n + ((2 ^ b : Nat) : Int) else n := by
  have hp := pow_pos b
  unfold low
  by_cases h : n < 0
  · rw [if_pos h]
    have : n % ((2 ^ b : Nat) : Int) = n + ((2 ^ b : Nat) : Int) := by
      rw [← Int.add_emod_right]; exact Int.emod_eq_of_lt (by omega) (by omega)
    rw [this]; omega
  · rw [if_neg h, Int.emod_eq_of_lt (by omega) h2]; omega
/-- Fit is right exactly if what was written reads as it was. -/
theorem fit_iff {n : Int} {b : Nat} {sg : Bool} (h1 : 1 ≤ b) (h2 : b ≤ 64) (hn : n < 9223372036854775808) : fitOk n b sg = true ↔ widOk (low n b) b sg = true ∧ widV (low n b) b sg = n := by
  have hp := pow_pos b
  have hh := pow_halves h1
  have hl := low_lt n b
  have h1' : (1 : Int) ≤ b := by omega
  have h2' : (b : Int) ≤ 64 := by omega
  unfold widV fitOk widOk
  simp only [Int.toNat_natCast, decide_eq_true_eq, h1', h2', hl, true_and]
  constructor
  · intro h
    cases sg with
    | true =>
      simp only [if_true, true_or, true_and] at h ⊢
      have hv := low_val (n := n) (b := b) (by omega) (by omega)
      split <;> split at hv <;> omega
    | false =>
      simp only [Bool.false_eq_true, if_false, false_or, false_and] at h ⊢
      have hv := low_val (n := n) (b := b) (by omega) (by omega)
      rw [if_neg (by omega)] at hv
      have : low n b < 9223372036854775808 := by omega
      exact ⟨this, by rw [if_pos this]; exact hv⟩
  · rintro ⟨ha, hb⟩
    rw [if_pos ha] at hb
    cases sg with
    | true =>
      simp only [if_true, true_and] at hb ⊢
      split at hb <;> omega
    | false =>
      simp only [Bool.false_eq_true, if_false, false_and] at hb ⊢
      omega
theorem fit_val {n : Int} {b : Nat} {sg : Bool} (h1 : 1 ≤ b) (h : fitOk n b sg = true) : fitV n b sg = ((low n b : Nat) : Int) := by
  have hh := pow_halves h1
  have hp := pow_pos (b - 1)
  have h' := h
  unfold fitOk at h
  simp only [Int.toNat_natCast, decide_eq_true_eq] at h
  unfold fitV
  rw [if_pos h', Int.toNat_natCast]
  refine (low_val ?_ ?_).symm
  · cases sg <;> simp only [Bool.false_eq_true, if_false, if_true] at h <;> omega
  · cases sg <;> simp only [Bool.false_eq_true, if_false, if_true] at h <;> omega
theorem fit_bad {n b : Int} {sg : Bool} (h : ¬ (1 ≤ b ∧ b ≤ 64)) : fitOk n b sg = false := by
  unfold fitOk; exact decide_eq_false (fun ⟨a, c, _⟩ => h ⟨a, c⟩)
theorem wid_bad {N : Nat} {b : Int} {sg : Bool} (h : ¬ (1 ≤ b ∧ b ≤ 64)) : widOk N b sg = false := by
  unfold widOk; exact decide_eq_false (fun ⟨a, c, _⟩ => h ⟨a, c⟩)
theorem fit_no {n b : Int} {sg : Bool} (h : fitOk n b sg = false) : fitV n b sg = 0 ∧ errV (fitOk n b sg) = 7 := by
  unfold fitV; rw [h]; exact ⟨rfl, rfl⟩
theorem wid_no {N : Nat} {b : Int} {sg : Bool} (h : widOk N b sg = false) : widV N b sg = 0 ∧ errV (widOk N b sg) = 7 := by
  unfold widV; rw [h]; exact ⟨rfl, rfl⟩
end Go.Proofs.Ythopdpgjfmpgkaa.I
