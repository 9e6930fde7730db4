/- Contracts of package ints and its reference: Mul and Shift. -/
import Derived.Test.YthopdpgjfmpgkaaInts7
namespace Go.Proofs.Ythopdpgjfmpgkaa
open Go.RowKit
namespace I
theorem mul_abs {a b : Int} {A B : Nat} (hA : a.natAbs = A) (hB : b.natAbs = B) (s : Bool) (hs : (decide (a < 0) != decide (b < 0)) = s) : a * b = if s = true then -((A * B : Nat) : Int) else ((A * B : Nat) : Int) := by
  rw [Int.natCast_mul, ← hA, ← hB, ← hs]
  by_cases h1 : a < 0 <;> by_cases h2 : b < 0
  · obtain ⟨x, rfl⟩ : ∃ x : Int, a = -x := ⟨-a, by omega⟩
    obtain ⟨y, rfl⟩ : ∃ y : Int, b = -y := ⟨-b, by omega⟩
    have e1 : (((-x).natAbs : Nat) : Int) = x := by omega
    have e2 : (((-y).natAbs : Nat) : Int) = y := by omega
    simp only [h1, h2, e1, e2]; simp [Int.neg_mul, Int.mul_neg]
  · obtain ⟨x, rfl⟩ : ∃ x : Int, a = -x := ⟨-a, by omega⟩
    have e1 : (((-x).natAbs : Nat) : Int) = x := by omega
    have e2 : ((b.natAbs : Nat) : Int) = b := by omega
    simp only [h1, h2, e1, e2]; simp [Int.neg_mul]
  · obtain ⟨y, rfl⟩ : ∃ y : Int, b = -y := ⟨-b, by omega⟩
    have e1 : ((a.natAbs : Nat) : Int) = a := by omega
    have e2 : (((-y).natAbs : Nat) : Int) = y := by omega
    simp only [h1, h2, e1, e2]; simp [Int.mul_neg]
  · have e1 : ((a.natAbs : Nat) : Int) = a := by omega
    have e2 : ((b.natAbs : Nat) : Int) = b := by omega
    simp only [h1, h2, e1, e2]; simp
theorem mul_pos_abs {a b : Int} (h1 : 0 ≤ a) (h2 : 0 ≤ b) : (a.natAbs : Int) * (b.natAbs : Int) = a * b := by
  have e1 : ((a.natAbs : Nat) : Int) = a := by omega
  have e2 : ((b.natAbs : Nat) : Int) = b := by omega
  rw [e1, e2]
/-- The greatest size of a number of this sign. -/
def lim (s : Bool) : Nat := if s = true then 9223372036854775808 else 9223372036854775807
def limI (s : Bool) : Int := if s = true then -9223372036854775808 else 9223372036854775807
theorem lim_abs (s : Bool) : (limI s).natAbs = lim s := by cases s <;> rfl
theorem limI_bd (s : Bool) : -9223372036854775808 ≤ limI s ∧ limI s ≤ 9223372036854775807 := by unfold limI; cases s <;> simp
theorem clamp_over {x : Int} {P : Nat} {s : Bool} (hx : x = if s = true then -(P : Int) else (P : Int)) (h : lim s < P) : clamp x = limI s := by
  unfold lim at h; unfold limI
  rw [hx]
  cases s
  · simp only [Bool.false_eq_true, if_false] at *; exact clamp_hi (by omega)
  · simp only [if_true] at *; exact clamp_lo (by omega)
theorem clamp_within {x : Int} {P : Nat} {s : Bool} (hx : x = if s = true then -(P : Int) else (P : Int)) (h : P ≤ lim s) : clamp x = if s = true then -(P : Int) else (P : Int) := by
  unfold lim at h
  rw [hx]
  cases s
  · simp only [Bool.false_eq_true, if_false] at *; exact clamp_in (by omega) (by omega)
  · simp only [if_true] at *; exact clamp_in (by omega) (by omega)
theorem lim_le (s : Bool) : lim s ≤ 9223372036854775808 := by unfold lim; cases s <;> simp
end I
theorem limit_s (s : Bool) (w : World) :
    Calls Try.prog 52 #[.bool s] w fun e w' => e = .returned (.int .i64 (I.limI s)) ∧ w = w' := limit_any s w
set_option maxHeartbeats 800000 in
theorem Mul_any (a b : Int) (ha1 : -9223372036854775808 ≤ a) (ha2 : a ≤ 9223372036854775807) (hb1 : -9223372036854775808 ≤ b) (hb2 : b ≤ 9223372036854775807) (w : World) :
    Calls Try.prog 37 #[.int .i64 a, .int .i64 b] w fun e w' => e = .returned (.int .i64 (I.clamp (a * b))) ∧ w = w' := by
  obtain ⟨A, hA⟩ : ∃ A, a.natAbs = A := ⟨_, rfl⟩
  obtain ⟨B, hB⟩ : ∃ B, b.natAbs = B := ⟨_, rfl⟩
  obtain ⟨s, hs⟩ : ∃ s, (decide (a < 0) != decide (b < 0)) = s := ⟨_, rfl⟩
  have hm := I.mul_abs hA hB s hs
  obtain ⟨P, hP⟩ : ∃ P, P = A * B := ⟨_, rfl⟩
  rw [← hP] at hm
  obtain ⟨H, hH⟩ : ∃ H, H = P / 18446744073709551616 := ⟨_, rfl⟩
  obtain ⟨L, hL⟩ : ∃ L, L = P % 18446744073709551616 := ⟨_, rfl⟩
  have hA64 : A < 18446744073709551616 := by omega
  have hB64 : B < 18446744073709551616 := by omega
  have hL64 : L < 18446744073709551616 := by omega
  have hPl : P ≤ 9223372036854775808 * 9223372036854775808 := by
    rw [hP]; exact Nat.mul_le_mul (by omega) (by omega)
  have hH64 : H < 18446744073709551616 := by omega
  have HHL := Lib.hid (And.intro hP (And.intro hH hL))
  have HA := Lib.hid hA
  have HB := Lib.hid hB
  have HM := Lib.hid hm
  have hs' : (!decide (a < 0) == decide (b < 0)) = s := hs
  have HS := Lib.hid hs'
  have hll := I.lim_le s
  obtain ⟨l, hl⟩ : ∃ l, I.lim s = l := ⟨_, rfl⟩
  have HL := Lib.hid ((I.lim_abs s).trans hl)
  have hlb := I.limI_bd s
  rw [hl] at hll
  have hd : H = 0 ∧ L = P ∨ 0 < H ∧ 18446744073709551616 ≤ P := by omega
  by_cases h0 : 0 < H
  · have HC := Lib.hid (I.clamp_over (s := s) hm (by rw [hl]; omega))
    clear hs hs' hm hP hH hL hA hB hd hPl hl
    go_enter Try.func37, Try.ntmps37
    go_wp2_with fail
    rw [HS.out]
    refine (size_any a A HA.out ha1 ha2 _).mono ?_
    rintro e w' ⟨rfl, rfl⟩
    go_wp2_with fail
    refine (size_any b B HB.out hb1 hb2 _).mono ?_
    rintro e w' ⟨rfl, rfl⟩
    go_wp2_with fail
    refine (Try.bits_Mul64 A B hA64 hB64 _).mono ?_
    rintro e w' ⟨rfl, rfl⟩
    rw [← HHL.out.1, ← HHL.out.2.1, ← HHL.out.2.2]
    go_wp2_with fail
    refine (limit_s s _).mono ?_
    rintro e w' ⟨rfl, rfl⟩
    go_wp2_with fail
    go_ret
    exact ⟨I.ret_i64 HC.out, rfl⟩
  · have hH0 : (H : Int) = 0 := by omega
    have hLP : L = P := by omega
    by_cases h1 : l < L
    · have HC := Lib.hid (I.clamp_over (s := s) hm (by rw [hl]; omega))
      clear hs hs' hm hP hH hL hA hB hd hPl hl hH0 hLP
      go_enter Try.func37, Try.ntmps37
      go_wp2_with fail
      rw [HS.out]
      refine (size_any a A HA.out ha1 ha2 _).mono ?_
      rintro e w' ⟨rfl, rfl⟩
      go_wp2_with fail
      refine (size_any b B HB.out hb1 hb2 _).mono ?_
      rintro e w' ⟨rfl, rfl⟩
      go_wp2_with fail
      refine (Try.bits_Mul64 A B hA64 hB64 _).mono ?_
      rintro e w' ⟨rfl, rfl⟩
      rw [← HHL.out.1, ← HHL.out.2.1, ← HHL.out.2.2]
      go_wp2_with fail
      refine (limit_s s _).mono ?_
      rintro e w' ⟨rfl, rfl⟩
      go_wp2_with fail
      refine (size_any _ l HL.out hlb.1 hlb.2 _).mono ?_
      rintro e w' ⟨rfl, rfl⟩
      go_wp2_with fail
      refine (limit_s s _).mono ?_
      rintro e w' ⟨rfl, rfl⟩
      go_wp2_with fail
      go_ret
      exact ⟨I.ret_i64 HC.out, rfl⟩
    · have HC := Lib.hid (I.clamp_within (s := s) hm (by rw [hl]; omega))
      have HLP := Lib.hid hLP
      have hl2 : s = false → l = 9223372036854775807 := fun e => by rw [← hl, e]; rfl
      have HL2 := Lib.hid hl2
      clear hs hs' hm hP hH hL hA hB hd hPl hl hH0 hLP hl2
      cases s
      all_goals
        go_enter Try.func37, Try.ntmps37
        go_wp2_with fail
        rw [HS.out]
        refine (size_any a A HA.out ha1 ha2 _).mono ?_
        rintro e w' ⟨rfl, rfl⟩
        go_wp2_with fail
        refine (size_any b B HB.out hb1 hb2 _).mono ?_
        rintro e w' ⟨rfl, rfl⟩
        go_wp2_with fail
        refine (Try.bits_Mul64 A B hA64 hB64 _).mono ?_
        rintro e w' ⟨rfl, rfl⟩
        rw [← HHL.out.1, ← HHL.out.2.1, ← HHL.out.2.2]
        go_wp2_with fail
        refine (limit_s _ _).mono ?_
        rintro e w' ⟨rfl, rfl⟩
        go_wp2_with fail
        refine (size_any _ l HL.out hlb.1 hlb.2 _).mono ?_
        rintro e w' ⟨rfl, rfl⟩
        go_wp2_with fail
        go_ret
        refine ⟨I.ret_i64 ?_, rfl⟩
        rw [HC.out]
        have e1 := HLP.out
        first
          | (have e2 := HL2.out (by trivial); rw [if_neg (by decide)]; unfold wrap64; omega)
          | (rw [if_pos (by trivial), I.wrap_u64]; unfold wrap64; omega)

namespace I
theorem div_lt_iff {M A B : Nat} (hB : 0 < B) : M / B < A ↔ M < A * B := Nat.div_lt_iff_lt_mul hB
theorem natAbs_pos {a : Int} {A : Nat} (h : a.natAbs = A) (h0 : a ≠ 0) : 0 < A := by omega
end I
set_option maxHeartbeats 800000 in
theorem RMul_any (a b : Int) (ha1 : -9223372036854775808 ≤ a) (ha2 : a ≤ 9223372036854775807) (hb1 : -9223372036854775808 ≤ b) (hb2 : b ≤ 9223372036854775807) (w : World) :
    Calls Try.prog 38 #[.int .i64 a, .int .i64 b] w fun e w' => e = .returned (.int .i64 (I.clamp (a * b))) ∧ w = w' := by
  by_cases hz : a = 0 ∨ b = 0
  · have HC : Hid (I.clamp (a * b) = 0) := by
      have : a * b = 0 := by rcases hz with rfl | rfl <;> simp
      rw [this]; exact Lib.hid rfl
    by_cases hz1 : a = 0
    · have h1 : (a == 0) = true := by rw [beq_iff_eq]; exact hz1
      clear hz hz1
      go_enter Try.func38, Try.ntmps38
      go_wp2_with fail
      go_ret
      exact ⟨I.ret_i64 HC.out, rfl⟩
    · have h1 : (a == 0) = false := by rw [beq_eq_false_iff_ne]; exact hz1
      have h2 : (b == 0) = true := by rw [beq_iff_eq]; omega
      clear hz hz1
      go_enter Try.func38, Try.ntmps38
      go_wp2_with fail
      go_ret
      exact ⟨I.ret_i64 HC.out, rfl⟩
  · obtain ⟨A, hA⟩ : ∃ A, a.natAbs = A := ⟨_, rfl⟩
    obtain ⟨B, hB⟩ : ∃ B, b.natAbs = B := ⟨_, rfl⟩
    obtain ⟨s, hs⟩ : ∃ s, (decide (a < 0) != decide (b < 0)) = s := ⟨_, rfl⟩
    have hm := I.mul_abs hA hB s hs
    have hA0 := I.natAbs_pos hA (by omega)
    have hB0 := I.natAbs_pos hB (by omega)
    have h1 : (a == 0) = false := by rw [beq_eq_false_iff_ne]; omega
    have h2 : (b == 0) = false := by rw [beq_eq_false_iff_ne]; omega
    have hA64 : A < 18446744073709551616 := by omega
    have hB64 : B < 18446744073709551616 := by omega
    have HA := Lib.hid hA
    have HB := Lib.hid hB
    have HM := Lib.hid hm
    have hB0' : (1 : Int) ≤ B := by omega
    have hq1 : (9223372036854775807 : Int) / B < A ↔ I.lim false < A * B := by
      have := I.div_lt_iff (M := 9223372036854775807) (A := A) hB0
      have e : (9223372036854775807 : Int) / B = ((9223372036854775807 / B : Nat) : Int) := by rw [Int.natCast_ediv]; rfl
      have e2 : I.lim false = 9223372036854775807 := rfl
      rw [e, e2]; omega
    have hq2 : (9223372036854775808 : Int) / B < A ↔ I.lim true < A * B := by
      have := I.div_lt_iff (M := 9223372036854775808) (A := A) hB0
      have e : (9223372036854775808 : Int) / B = ((9223372036854775808 / B : Nat) : Int) := by rw [Int.natCast_ediv]; rfl
      have e2 : I.lim true = 9223372036854775808 := rfl
      rw [e, e2]; omega
    by_cases hc : I.lim s < A * B
    · cases s with
      | false =>
        have hcl := I.clamp_over (s := false) hm hc
        have hcl' : I.clamp (a * b) = 9223372036854775807 := hcl
        have HC := Lib.hid hcl'
        have hcmp := hq1.2 hc
        have hsg : (a < 0 ∧ b < 0) ∨ (¬ a < 0 ∧ ¬ b < 0) := by
          by_cases n1 : a < 0 <;> by_cases n2 : b < 0 <;> simp [n1, n2] at hs ⊢
        clear hz hs hm hA hB hc hcl hcl' hq1 hq2
        rcases hsg with ⟨n1, n2⟩ | ⟨n1, n2⟩
        all_goals
          go_enter Try.func38, Try.ntmps38
          go_wp2_with fail
          refine (rsize_any a A HA.out ha1 ha2 _).mono ?_
          rintro e w' ⟨rfl, rfl⟩
          go_wp2_with fail
          refine (rsize_any b B HB.out hb1 hb2 _).mono ?_
          rintro e w' ⟨rfl, rfl⟩
          go_wp2_with fail
          go_ret
          exact ⟨I.ret_i64 HC.out, rfl⟩
      | true =>
        have hcl := I.clamp_over (s := true) hm hc
        have hcl' : I.clamp (a * b) = -9223372036854775808 := hcl
        have HC := Lib.hid hcl'
        have hcmp := hq2.2 hc
        have hsg : (a < 0 ∧ ¬ b < 0) ∨ (¬ a < 0 ∧ b < 0) := by
          by_cases n1 : a < 0 <;> by_cases n2 : b < 0 <;> simp [n1, n2] at hs ⊢
        clear hz hs hm hA hB hc hcl hcl' hq1 hq2
        rcases hsg with ⟨n1, n2⟩ | ⟨n1, n2⟩
        all_goals
          go_enter Try.func38, Try.ntmps38
          go_wp2_with fail
          refine (rsize_any a A HA.out ha1 ha2 _).mono ?_
          rintro e w' ⟨rfl, rfl⟩
          go_wp2_with fail
          refine (rsize_any b B HB.out hb1 hb2 _).mono ?_
          rintro e w' ⟨rfl, rfl⟩
          go_wp2_with fail
          go_ret
          exact ⟨I.ret_i64 HC.out, rfl⟩
    · cases s with
      | false =>
        have hcl := I.clamp_within (s := false) hm (by omega)
        rw [← hm] at hcl
        have hbd := I.clamp_bd (a * b)
        rw [hcl] at hbd
        have HC := Lib.hid hcl
        have hcmp : ¬ (9223372036854775807 : Int) / B < A := fun h => hc (hq1.1 h)
        have hsg : (a < 0 ∧ b < 0) ∨ (¬ a < 0 ∧ ¬ b < 0) := by
          by_cases n1 : a < 0 <;> by_cases n2 : b < 0 <;> simp [n1, n2] at hs ⊢
        clear hz hs hm hA hB hc hcl hq1 hq2
        rcases hsg with ⟨n1, n2⟩ | ⟨n1, n2⟩
        all_goals
          go_enter Try.func38, Try.ntmps38
          go_wp2_with fail
          refine (rsize_any a A HA.out ha1 ha2 _).mono ?_
          rintro e w' ⟨rfl, rfl⟩
          go_wp2_with fail
          refine (rsize_any b B HB.out hb1 hb2 _).mono ?_
          rintro e w' ⟨rfl, rfl⟩
          go_wp2_with fail
          go_ret
          exact ⟨I.ret_i64 HC.out, rfl⟩
      | true =>
        have hcl := I.clamp_within (s := true) hm (by omega)
        rw [← hm] at hcl
        have hbd := I.clamp_bd (a * b)
        rw [hcl] at hbd
        have HC := Lib.hid hcl
        have hcmp : ¬ (9223372036854775808 : Int) / B < A := fun h => hc (hq2.1 h)
        have hsg : (a < 0 ∧ ¬ b < 0) ∨ (¬ a < 0 ∧ b < 0) := by
          by_cases n1 : a < 0 <;> by_cases n2 : b < 0 <;> simp [n1, n2] at hs ⊢
        clear hz hs hm hA hB hc hcl hq1 hq2
        rcases hsg with ⟨n1, n2⟩ | ⟨n1, n2⟩
        all_goals
          go_enter Try.func38, Try.ntmps38
          go_wp2_with fail
          refine (rsize_any a A HA.out ha1 ha2 _).mono ?_
          rintro e w' ⟨rfl, rfl⟩
          go_wp2_with fail
          refine (rsize_any b B HB.out hb1 hb2 _).mono ?_
          rintro e w' ⟨rfl, rfl⟩
          go_wp2_with fail
          go_ret
          exact ⟨I.ret_i64 HC.out, rfl⟩
end Go.Proofs.Ythopdpgjfmpgkaa
