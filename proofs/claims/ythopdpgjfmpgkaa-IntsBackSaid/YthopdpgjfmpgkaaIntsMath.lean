/- Plain numbers: bits that are turned, fields of bits, numbers of so many bits, signed or not, and what saturates. -/
import Derived.Test.YthopdpgjfmpgkaaProg
import Derived.WalkKit
import Derived.Lib.Hide
namespace Go.Proofs.Ythopdpgjfmpgkaa.I
theorem pow_pos (k : Nat) : 0 < 2 ^ k := Nat.two_pow_pos k
theorem cast_pow (b : Nat) : ((2 : Int) ^ b) = ((2 ^ b : Nat) : Int) := by simp
theorem pow_le_64 {b : Nat} (h : b ≤ 64) : 2 ^ b ≤ 18446744073709551616 := by
  have := Nat.pow_le_pow_right (n := 2) (by decide) h
  simpa using this
theorem pow_split {b k : Nat} (h : k ≤ b) : 2 ^ b = 2 ^ (b - k) * 2 ^ k := by rw [← Nat.pow_add]; congr 1; omega
theorem bit_le (N k : Nat) : N / 2 ^ k % 2 ≤ 1 := by omega
/-- One more bit. -/
theorem mod_step (N k : Nat) : N % 2 ^ (k + 1) = N % 2 ^ k + N / 2 ^ k % 2 * 2 ^ k := by
  rw [Nat.pow_succ, Nat.mod_mul]; rw [Nat.mul_comm (2 ^ k)]
theorem half_step (N k : Nat) : N / 2 ^ k / 2 = N / 2 ^ (k + 1) := by rw [Nat.div_div_eq_div_mul, Nat.pow_succ]
theorem div_step (N k : Nat) : N / 2 ^ k = 2 * (N / 2 ^ (k + 1)) + N / 2 ^ k % 2 := by rw [← half_step]; omega

/- Turn. -/
def turnN (N b k : Nat) : Nat := N % 2 ^ (b - k) * 2 ^ k + N / 2 ^ (b - k)
theorem turn_prog {N b k : Nat} (hN : N < 2 ^ b) (hb : b ≤ 64) (hk : k < b) : ((N * 2 ^ k % 18446744073709551616) ||| (N / 2 ^ (b - k))) &&& (2 ^ b - 1) = turnN N b k := by
  have h64 : (18446744073709551616 : Nat) = 2 ^ 64 := by decide
  have hd : N / 2 ^ (b - k) < 2 ^ k := by
    rw [Nat.div_lt_iff_lt_mul (pow_pos _), Nat.mul_comm, ← pow_split (Nat.le_of_lt hk)]; exact hN
  rw [Nat.and_two_pow_sub_one_eq_mod, Nat.or_mod_two_pow, h64, Nat.mod_mod_of_dvd _ (Nat.pow_dvd_pow 2 hb), Nat.mod_eq_of_lt (Nat.lt_of_le_of_lt (Nat.div_le_self _ _) hN)]
  rw [pow_split (Nat.le_of_lt hk), Nat.mul_mod_mul_right]
  unfold turnN
  rw [Nat.mul_comm (N % 2 ^ (b - k)), Nat.two_pow_add_eq_or_of_lt hd]
theorem turn_lt {N b k : Nat} (hN : N < 2 ^ b) (hk : k < b) : turnN N b k < 2 ^ b := by
  have hd : N / 2 ^ (b - k) < 2 ^ k := by
    rw [Nat.div_lt_iff_lt_mul (pow_pos _), Nat.mul_comm, ← pow_split (Nat.le_of_lt hk)]; exact hN
  have hm : N % 2 ^ (b - k) + 1 ≤ 2 ^ (b - k) := Nat.mod_lt _ (pow_pos _)
  have := Nat.mul_le_mul_right (2 ^ k) hm
  rw [Nat.add_mul, Nat.one_mul, ← pow_split (Nat.le_of_lt hk)] at this
  unfold turnN
  omega
/-- How the reference turns: the bits before place i are at their new places. -/
def turnAt (N b k i : Nat) : Nat := N % 2 ^ (min i (b - k)) * 2 ^ k + N % 2 ^ i / 2 ^ (b - k)
theorem turnAt_zero (N b k : Nat) : turnAt N b k 0 = 0 := by simp [turnAt, Nat.mod_one]
theorem turnAt_end {N b k : Nat} (hN : N < 2 ^ b) : turnAt N b k b = turnN N b k := by
  unfold turnAt turnN
  rw [Nat.min_eq_right (Nat.sub_le _ _), Nat.mod_eq_of_lt hN]
theorem turnAt_step {N b k i : Nat} (hk : k < b) (hi : i < b) : turnAt N b k (i + 1) = turnAt N b k i + N / 2 ^ i % 2 * 2 ^ ((i + k) % b) := by
  unfold turnAt
  by_cases h : i < b - k
  · have e1 : min (i + 1) (b - k) = i + 1 := by omega
    have e2 : min i (b - k) = i := by omega
    have e3 : (i + k) % b = i + k := Nat.mod_eq_of_lt (by omega)
    have z1 : N % 2 ^ (i + 1) / 2 ^ (b - k) = 0 := Nat.div_eq_of_lt (Nat.lt_of_lt_of_le (Nat.mod_lt _ (pow_pos _)) (Nat.pow_le_pow_right (by decide) (by omega)))
    have z2 : N % 2 ^ i / 2 ^ (b - k) = 0 := Nat.div_eq_of_lt (Nat.lt_of_lt_of_le (Nat.mod_lt _ (pow_pos _)) (Nat.pow_le_pow_right (by decide) (by omega)))
    rw [e1, e2, e3, z1, z2, mod_step, Nat.add_mul, Nat.pow_add, Nat.mul_assoc]
    rfl
  · have e1 : min (i + 1) (b - k) = b - k := by omega
    have e2 : min i (b - k) = b - k := by omega
    have e3 : (i + k) % b = i + k - b := by rw [Nat.mod_eq_sub_mod (by omega)]; exact Nat.mod_eq_of_lt (by omega)
    have e4 : 2 ^ i = 2 ^ (i + k - b) * 2 ^ (b - k) := by rw [← Nat.pow_add]; congr 1; omega
    rw [e1, e2, e3, mod_step]
    have : N / 2 ^ i % 2 * 2 ^ i = N / 2 ^ i % 2 * 2 ^ (i + k - b) * 2 ^ (b - k) := by rw [Nat.mul_assoc, ← e4]
    rw [this, Nat.add_mul_div_right _ _ (pow_pos _), Nat.add_assoc]
theorem turnAt_lt {N b k i : Nat} (hk : k < b) (hi : i ≤ b) : turnAt N b k i < 2 ^ b := by
  unfold turnAt
  have h1 : N % 2 ^ i / 2 ^ (b - k) < 2 ^ k := by
    rw [Nat.div_lt_iff_lt_mul (pow_pos _), Nat.mul_comm, ← pow_split (Nat.le_of_lt hk)]
    exact Nat.lt_of_lt_of_le (Nat.mod_lt _ (pow_pos _)) (Nat.pow_le_pow_right (by decide) hi)
  have hm : N % 2 ^ (min i (b - k)) + 1 ≤ 2 ^ (b - k) := Nat.lt_of_lt_of_le (Nat.mod_lt _ (pow_pos _)) (Nat.pow_le_pow_right (by decide) (by omega))
  have := Nat.mul_le_mul_right (2 ^ k) hm
  rw [Nat.add_mul, Nat.one_mul, ← pow_split (Nat.le_of_lt hk)] at this
  omega

/- Field. -/
def fieldN (N a m : Nat) : Nat := N / 2 ^ a % 2 ^ m
theorem field_prog (N a m : Nat) : (N / 2 ^ a) &&& (2 ^ m - 1) = fieldN N a m := Nat.and_two_pow_sub_one_eq_mod _ _
theorem field_lt (N a m : Nat) : fieldN N a m < 2 ^ m := Nat.mod_lt _ (pow_pos _)
/-- How the reference takes a field: from its highest bit, down to bit i. -/
def fieldAt (N a m i : Nat) : Nat := fieldN N (a + i) (m - i)
theorem fieldAt_start (N a m : Nat) : fieldAt N a m m = 0 := by simp [fieldAt, fieldN, Nat.mod_one]
theorem fieldAt_end (N a m : Nat) : fieldAt N a m 0 = fieldN N a m := by simp [fieldAt]
theorem fieldAt_step {N a m i : Nat} (hi : i < m) : fieldAt N a m i = 2 * fieldAt N a m (i + 1) + N / 2 ^ (a + i) % 2 := by
  unfold fieldAt fieldN
  have e : m - i = (m - (i + 1)) + 1 := by omega
  rw [e, Nat.pow_succ, Nat.mul_comm _ 2, Nat.mod_mul, half_step, Nat.add_assoc a i 1]
  omega

/- With. -/
def withN (N a m V : Nat) : Nat := N / 2 ^ (a + m) * 2 ^ (a + m) + V * 2 ^ a + N % 2 ^ a
theorem with_or {N a m V : Nat} (hV : V < 2 ^ m) : withN N a m V = (N / 2 ^ (a + m) * 2 ^ (a + m) ||| V * 2 ^ a) ||| N % 2 ^ a := by
  have hm : N % 2 ^ a < 2 ^ a := Nat.mod_lt _ (pow_pos _)
  have e1 : N / 2 ^ (a + m) * 2 ^ (a + m) = 2 ^ a * (N / 2 ^ (a + m) * 2 ^ m) := by rw [Nat.pow_add]; ac_rfl
  have e2 : N / 2 ^ (a + m) * 2 ^ m + V = (N / 2 ^ (a + m) * 2 ^ m) ||| V := by rw [Nat.mul_comm, Nat.two_pow_add_eq_or_of_lt hV]
  unfold withN
  rw [e1, Nat.mul_comm V, ← Nat.mul_add, Nat.two_pow_add_eq_or_of_lt hm, e2]
  congr 1
  apply Nat.eq_of_testBit_eq
  intro i
  simp [Nat.testBit_or, Nat.testBit_two_pow_mul]
  cases decide (a ≤ i) <;> simp
theorem with_bit {N a m V : Nat} (hV : V < 2 ^ m) (i : Nat) : (withN N a m V).testBit i = if a ≤ i ∧ i < a + m then V.testBit (i - a) else N.testBit i := by
  rw [with_or hV, Nat.mul_comm _ (2 ^ (a + m)), Nat.mul_comm V]
  simp only [Nat.testBit_or, Nat.testBit_two_pow_mul, Nat.testBit_mod_two_pow, Nat.testBit_div_two_pow]
  by_cases h1 : a ≤ i
  · by_cases h2 : i < a + m
    · have n1 : ¬ a + m ≤ i := by omega
      have n2 : ¬ i < a := by omega
      simp [h1, h2, n1, n2]
    · have n1 : a + m ≤ i := by omega
      have n2 : ¬ i < a := by omega
      have hv : V.testBit (i - a) = false := Nat.testBit_lt_two_pow (Nat.lt_of_lt_of_le hV (Nat.pow_le_pow_right (by decide) (by omega)))
      have e : i - (a + m) + (a + m) = i := by omega
      simp [h1, h2, n1, n2, hv, e]
  · have n1 : ¬ a + m ≤ i := by omega
    have n2 : i < a := by omega
    simp [h1, n1, n2]
theorem with_prog {N a m V : Nat} (hN : N < 18446744073709551616) (hV : V < 2 ^ m) (ham : a + m ≤ 64) :
    (N &&& (18446744073709551615 - (2 ^ m - 1) * 2 ^ a % 18446744073709551616)) ||| (V * 2 ^ a % 18446744073709551616) = withN N a m V := by
  have h64 : (18446744073709551616 : Nat) = 2 ^ 64 := by decide
  have hp := pow_pos m
  have hq := pow_pos a
  have hpq : 2 ^ m * 2 ^ a ≤ 2 ^ 64 := by rw [← Nat.pow_add]; exact Nat.pow_le_pow_right (by decide) (by omega)
  have l1 : (2 ^ m - 1) * 2 ^ a < 2 ^ 64 := by
    have : (2 ^ m - 1) * 2 ^ a + 2 ^ a = 2 ^ m * 2 ^ a := by rw [← Nat.succ_mul]; congr 1; omega
    omega
  have l2 : V * 2 ^ a < 2 ^ 64 := Nat.lt_of_lt_of_le (Nat.mul_lt_mul_of_pos_right hV hq) hpq
  rw [h64, Nat.mod_eq_of_lt l1, Nat.mod_eq_of_lt l2]
  have e15 : (18446744073709551615 : Nat) - (2 ^ m - 1) * 2 ^ a = 2 ^ 64 - ((2 ^ m - 1) * 2 ^ a + 1) := by omega
  rw [e15]
  apply Nat.eq_of_testBit_eq
  intro i
  rw [with_bit hV, Nat.testBit_or, Nat.testBit_and, Nat.testBit_two_pow_sub_succ l1, Nat.mul_comm _ (2 ^ a), Nat.mul_comm V, Nat.testBit_two_pow_mul, Nat.testBit_two_pow_mul, Nat.testBit_two_pow_sub_one]
  by_cases h1 : a ≤ i
  · by_cases h2 : i < a + m
    · have h3 : i - a < m := by omega
      simp [h1, h2, h3]
    · have h3 : ¬ i - a < m := by omega
      have hv : V.testBit (i - a) = false := Nat.testBit_lt_two_pow (Nat.lt_of_lt_of_le hV (Nat.pow_le_pow_right (by decide) (by omega)))
      by_cases h4 : i < 64
      · simp [h1, h2, h3, hv, h4]
      · have hn : N.testBit i = false := Nat.testBit_lt_two_pow (Nat.lt_of_lt_of_le (h64 ▸ hN) (Nat.pow_le_pow_right (by decide) (by omega)))
        simp [h2, hv, hn]
  · have h4 : i < 64 := by omega
    simp [h1, h4]
theorem with_lt {N a m V : Nat} (hN : N < 18446744073709551616) (hV : V < 2 ^ m) (ham : a + m ≤ 64) : withN N a m V < 18446744073709551616 := by
  have h64 : (18446744073709551616 : Nat) = 2 ^ 64 := by decide
  rw [h64] at hN ⊢
  apply Nat.lt_pow_two_of_testBit
  intro i hi
  rw [with_bit hV, if_neg (by omega)]
  exact Nat.testBit_lt_two_pow (Nat.lt_of_lt_of_le hN (Nat.pow_le_pow_right (by decide) hi))
theorem with_at {N a m V : Nat} (hV : V < 2 ^ m) (i : Nat) : withN N a m V / 2 ^ i % 2 = if a ≤ i ∧ i < a + m then V / 2 ^ (i - a) % 2 else N / 2 ^ i % 2 := by
  have h := with_bit (N := N) (a := a) hV i
  rw [Nat.testBit_eq_decide_div_mod_eq] at h
  by_cases hc : a ≤ i ∧ i < a + m
  · rw [if_pos hc] at h ⊢
    rw [Nat.testBit_eq_decide_div_mod_eq, decide_eq_decide] at h
    omega
  · rw [if_neg hc] at h ⊢
    rw [Nat.testBit_eq_decide_div_mod_eq, decide_eq_decide] at h
    omega
end Go.Proofs.Ythopdpgjfmpgkaa.I
