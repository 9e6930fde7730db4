/- Plain facts on decimal forms: what a string of digits is worth, and what the library's reading of it gives. No program is walked here. -/
import Derived.Test.YtbjfpmklmhgbdaaDoorWords2
import Derived.Lib.ParseIntBCases
namespace Go.Proofs.YtbjfpmklmhgbdaaDoor
open Go.RowKit
namespace W
/-- A byte that is a digit. -/
def dB (c : UInt8) : Prop := 48 ≤ c.toNat ∧ c.toNat ≤ 57
/-- What digits are worth, behind acc. -/
def valL (acc : Nat) : List UInt8 → Nat
  | [] => acc
  | c :: r => valL (acc * 10 + (c.toNat - 48)) r
theorem valL_ge : ∀ (l : List UInt8) (acc : Nat), acc ≤ valL acc l
  | [], acc => Nat.le_refl _
  | c :: r, acc => Nat.le_trans (by omega) (valL_ge r (acc * 10 + (c.toNat - 48)))
theorem valL_snoc : ∀ (l : List UInt8) (acc : Nat) (c : UInt8), valL acc (l ++ [c]) = valL acc l * 10 + (c.toNat - 48)
  | [], _, _ => rfl
  | x :: r, acc, c => valL_snoc r (acc * 10 + (x.toNat - 48)) c
theorem valL_append : ∀ (l m : List UInt8) (acc : Nat), valL acc (l ++ m) = valL (valL acc l) m
  | [], _, _ => rfl
  | x :: r, m, acc => valL_append r m (acc * 10 + (x.toNat - 48))
theorem parse_digits (M : Nat) (hM : M ≤ 18446744073709551615) : ∀ (l : List UInt8) (acc : Nat), (∀ c ∈ l, dB c) → acc ≤ M →
    Lib.parseUintM M acc l = if valL acc l ≤ M then .ok (valL acc l) else .range
  | [], acc, _, h => by
    unfold Lib.parseUintM valL
    rw [if_pos h]
  | c :: r, acc, hd, h => by
    obtain ⟨h1, h2⟩ := hd c (by simp)
    have hr := fun x hx => hd x (List.mem_cons_of_mem _ hx)
    have hge := valL_ge r (acc * 10 + (c.toNat - 48))
    unfold Lib.parseUintM valL
    rw [if_pos ⟨h1, h2⟩]
    by_cases h3 : 1844674407370955162 ≤ acc
    · rw [if_pos h3, if_neg (by omega)]
    · rw [if_neg h3]
      by_cases h4 : M < acc * 10 + (c.toNat - 48)
      · rw [if_pos h4, if_neg (by omega)]
      · rw [if_neg h4, parse_digits M hM r _ hr (by omega)]
/-- The bytes behind a sign. -/
def body (l : List UInt8) : List UInt8 := if l.headD 0 = 45 then l.drop 1 else l
/-- What a decimal form is worth. -/
def ival (s : ByteArray) : Int := if s.data.toList.headD 0 = 45 then -(valL 0 (body s.data.toList) : Int) else (valL 0 (body s.data.toList) : Int)
def in64 (v : Int) : Bool := decide (-9223372036854775808 ≤ v) && decide (v ≤ 9223372036854775807)
/-- The library's reading of a decimal form. -/
theorem parse_body (l : List UInt8) (hb : body l ≠ []) (hd : ∀ c ∈ body l, dB c) :
    Lib.parseIntB 64 l = if in64 (if l.headD 0 = 45 then -(valL 0 (body l) : Int) else (valL 0 (body l) : Int)) = true then .ok (if l.headD 0 = 45 then -(valL 0 (body l) : Int) else (valL 0 (body l) : Int)) else .range := by
  match l, hb, hd with
  | [], hb, _ => exact absurd rfl hb
  | c :: r, hb, hd =>
    unfold Lib.parseIntB
    have hne : ∀ c' : UInt8, dB c' → c'.toNat ≠ 43 ∧ c'.toNat ≠ 45 := fun c' h => by unfold dB at h; omega
    by_cases hc : c = 45
    · subst hc
      have t45 : (UInt8.toNat 45) = 45 := rfl
      have hbody : body ((45 : UInt8) :: r) = r := rfl
      rw [hbody] at hb hd
      rw [hbody]
      simp only [List.headD_cons, t45, or_true, if_true]
      unfold Lib.parseUintB
      rw [if_neg hb, parse_digits (2 ^ 64 - 1) (by decide) r 0 hd (by decide)]
      have e64 : 2 ^ 64 - 1 = 18446744073709551615 := by decide
      have e63 : 2 ^ (64 - 1) = 9223372036854775808 := by decide
      rw [e64, e63]
      by_cases h1 : valL 0 r ≤ 18446744073709551615
      · rw [if_pos h1]
        simp only [not_true_eq_false, false_and, if_false, true_and]
        by_cases h2 : valL 0 r ≤ 9223372036854775808
        · rw [if_neg (by omega), if_pos (by simp [in64]; omega)]
        · rw [if_pos (by omega), if_neg (by simp [in64]; omega)]
      · rw [if_neg h1, if_neg (by simp [in64]; omega)]
    · have hbody : body (c :: r) = c :: r := by simp [body, hc]
      rw [hbody] at hb hd
      have hcd := hne c (hd c (by simp))
      simp only [hbody, List.headD_cons, if_neg hc]
      rw [if_neg (by omega)]
      unfold Lib.parseUintB
      rw [if_neg hb, parse_digits (2 ^ 64 - 1) (by decide) (c :: r) 0 hd (by decide)]
      have e64 : 2 ^ 64 - 1 = 18446744073709551615 := by decide
      have e63 : 2 ^ (64 - 1) = 9223372036854775808 := by decide
      rw [e64, e63]
      by_cases h1 : valL 0 (c :: r) ≤ 18446744073709551615
      · rw [if_pos h1]
        simp only [hcd.2, not_false_eq_true, true_and, false_and, if_false]
        by_cases h2 : valL 0 (c :: r) ≤ 9223372036854775807
        · rw [if_neg (by omega), if_pos (by simp [in64]; omega)]
        · rw [if_pos (by omega), if_neg (by simp [in64]; omega)]
      · rw [if_neg h1, if_neg (by simp [in64]; omega)]
end W
end Go.Proofs.YtbjfpmklmhgbdaaDoor
