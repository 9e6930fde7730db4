/- Turns one after the other; fields after With. -/
import Derived.Test.YthopdpgjfmpgkaaIntsLaw1
namespace Go.Proofs.Ythopdpgjfmpgkaa
open Go.RowKit
namespace I
theorem turn_bit {N b k i : Nat} (hN : N < 2 ^ b) (hk : k < b) (hi : i < b) : (turnN N b k).testBit i = N.testBit (if i < k then i + b - k else i - k) := by
  have hd : N / 2 ^ (b - k) < 2 ^ k := by
    rw [Nat.div_lt_iff_lt_mul (pow_pos _), Nat.mul_comm, ← pow_split (Nat.le_of_lt hk)]; exact hN
  unfold turnN
  rw [Nat.mul_comm, Nat.two_pow_add_eq_or_of_lt hd, Nat.testBit_or, Nat.testBit_two_pow_mul, Nat.testBit_mod_two_pow, Nat.testBit_div_two_pow]
  by_cases h : i < k
  · have h1 : ¬ k ≤ i := by omega
    have e : i + (b - k) = i + b - k := by omega
    simp [h, h1, e]
  · have h1 : k ≤ i := by omega
    have h2 : i - k < b - k := by omega
    have h3 : N.testBit (i + (b - k)) = false := Nat.testBit_lt_two_pow (Nat.lt_of_lt_of_le hN (Nat.pow_le_pow_right (by decide) (by omega)))
    simp [h, h1, h2, h3]
theorem turn_zero {N b : Nat} (hN : N < 2 ^ b) : turnN N b 0 = N := by
  unfold turnN
  rw [Nat.sub_zero, Nat.pow_zero, Nat.mul_one, Nat.mod_eq_of_lt hN, Nat.div_eq_of_lt hN, Nat.add_zero]
theorem turn_turn {N b j k s : Nat} (hN : N < 2 ^ b) (hj : j < b) (hk : k < b) (hs : s = (j + k) % b) : turnN (turnN N b j) b k = turnN N b s := by
  have hsb : s < b := by rw [hs]; exact Nat.mod_lt _ (by omega)
  have hs2 : s = j + k ∨ (b ≤ j + k ∧ s = j + k - b) := by
    by_cases h : j + k < b
    · left; rw [hs, Nat.mod_eq_of_lt h]
    · right; exact ⟨by omega, by rw [hs, Nat.mod_eq_sub_mod (by omega), Nat.mod_eq_of_lt (by omega)]⟩
  have h1 := turn_lt hN hj
  apply Nat.eq_of_testBit_eq
  intro i
  by_cases hi : i < b
  · rw [turn_bit h1 hk hi, turn_bit hN hj (by split <;> omega), turn_bit hN hsb hi]
    congr 1
    split <;> split <;> split <;> omega
  · rw [Nat.testBit_lt_two_pow (Nat.lt_of_lt_of_le (turn_lt h1 hk) (Nat.pow_le_pow_right (by decide) (by omega))), Nat.testBit_lt_two_pow (Nat.lt_of_lt_of_le (turn_lt hN hsb) (Nat.pow_le_pow_right (by decide) (by omega)))]
theorem emod_nat {j : Int} {b : Nat} (hb : 1 ≤ b) : ∃ J : Nat, j % (b : Int) = J ∧ J < b := by
  have h0 := Int.emod_nonneg j (show (b : Int) ≠ 0 by omega)
  have h1 := Int.emod_lt_of_pos j (show (0 : Int) < b by omega)
  exact ⟨(j % (b : Int)).toNat, by omega, by omega⟩
theorem emod_sum {j k : Int} {b J K : Nat} (hJ : j % (b : Int) = J) (hK : k % (b : Int) = K) : (j + k) % (b : Int) = (((J + K) % b : Nat) : Int) := by
  rw [Int.add_emod, hJ, hK, ← Int.natCast_add, ← Int.natCast_emod]
/-- What Turn after Turn returns. -/
theorem trn_trn {N b : Nat} (hN : N < 2 ^ b) (h1 : 1 ≤ b) (h2 : b ≤ 64) (j k : Int) : ∃ A : Nat, trnV N b j = A ∧ A < 2 ^ b ∧ trnV A b k = trnV N b (j + k) := by
  obtain ⟨J, hJ, hJb⟩ := emod_nat (j := j) h1
  obtain ⟨K, hK, hKb⟩ := emod_nat (j := k) h1
  have ok : ∀ M : Nat, M < 2 ^ b → trnOk M b = true := fun M hM => by unfold trnOk; exact decide_eq_true ⟨by omega, by omega, by rw [Int.toNat_natCast]; exact hM⟩
  have hA := turn_lt hN hJb
  refine ⟨turnN N b J, ?_, hA, ?_⟩
  · rw [trnV_nat _ _ _ (ok N hN), hJ, Int.toNat_natCast]
  · rw [trnV_nat _ _ _ (ok _ hA), trnV_nat _ _ _ (ok N hN), emod_sum hJ hK, hK, Int.toNat_natCast, Int.toNat_natCast, turn_turn hN hJb hKb rfl]
theorem trn_back {N b : Nat} (hN : N < 2 ^ b) (h1 : 1 ≤ b) (h2 : b ≤ 64) : trnV N b 0 = N := by
  have ok : trnOk N b = true := by unfold trnOk; exact decide_eq_true ⟨by omega, by omega, by rw [Int.toNat_natCast]; exact hN⟩
  rw [trnV_nat _ _ _ ok, Int.zero_emod, Int.toNat_zero, turn_zero hN]
theorem trn_ok {N b : Nat} (hN : N < 2 ^ b) (h1 : 1 ≤ b) (h2 : b ≤ 64) : errV (trnOk N b) = 0 := by
  have ok : trnOk N b = true := by unfold trnOk; exact decide_eq_true ⟨by omega, by omega, by rw [Int.toNat_natCast]; exact hN⟩
  rw [ok]; rfl
theorem fld_ok {a m : Int} (h0 : 0 ≤ a) (h1 : a < 64) (h2 : 1 ≤ m) (h3 : m ≤ 64 - a) : errV (fldOk a m) = 0 := by
  have : fldOk a m = true := by unfold fldOk; exact decide_eq_true ⟨h0, h1, h2, h3⟩
  rw [this]; rfl
theorem fld_val {N A M : Nat} (h1 : A < 64) (h2 : 1 ≤ M) (h3 : A + M ≤ 64) : fldV N A M = ((fieldN N A M : Nat) : Int) := fldV_nat N A M (by unfold fldOk; exact decide_eq_true (by omega))
theorem wth_val {N A M V : Nat} (h1 : A < 64) (h2 : 1 ≤ M) (h3 : A + M ≤ 64) (hV : V < 2 ^ M) : wthV N A M V = ((withN N A M V : Nat) : Int) ∧ errV (wthOk A M V) = 0 := by
  have hf : fldOk A M = true := by unfold fldOk; exact decide_eq_true (by omega)
  have hw : wthOk A M V = true := by unfold wthOk; rw [hf, Int.toNat_natCast]; exact decide_eq_true hV
  exact ⟨wthV_nat N A M V hw, by rw [hw]; rfl⟩
theorem field_with {N A M V : Nat} (hV : V < 2 ^ M) : fieldN (withN N A M V) A M = V := by
  unfold fieldN withN
  have e : N / 2 ^ (A + M) * 2 ^ (A + M) + V * 2 ^ A + N % 2 ^ A = (N / 2 ^ (A + M) * 2 ^ M + V) * 2 ^ A + N % 2 ^ A := by
    rw [Nat.add_mul, Nat.mul_assoc, ← Nat.pow_add, Nat.add_comm M A]
  rw [e, Nat.mul_comm _ (2 ^ A), Nat.mul_add_div (pow_pos A), Nat.div_eq_of_lt (Nat.mod_lt _ (pow_pos A)), Nat.add_zero, Nat.mul_comm _ (2 ^ M), Nat.mul_add_mod, Nat.mod_eq_of_lt hV]
theorem field_one (N i : Nat) : fieldN N i 1 = N / 2 ^ i % 2 := by unfold fieldN; rw [Nat.pow_one]
theorem field_out {N A M V i : Nat} (hV : V < 2 ^ M) (h : ¬ (A ≤ i ∧ i < A + M)) : fieldN (withN N A M V) i 1 = fieldN N i 1 := by
  rw [field_one, field_one, with_at hV, if_neg h]
end I
end Go.Proofs.Ythopdpgjfmpgkaa
