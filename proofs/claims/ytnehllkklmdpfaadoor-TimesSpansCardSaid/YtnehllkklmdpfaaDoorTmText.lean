/- The texts of times: what is written, what is read. No program is walked here. -/
import Derived.Test.YtnehllkklmdpfaaDoorTmTotal
import Derived.Lib.ItoaLen
namespace Go.Proofs.YtnehllkklmdpfaaDoor
open Go.RowKit
namespace T
/-- A number below 100 in two digits. -/
def twoD (n : Int) : List UInt8 := [UInt8.ofNat (48 + n / 10).toNat, UInt8.ofNat (48 + n % 10).toNat]
/-- The text of a time. -/
def text (t : Int) : List UInt8 := Lib.itoa (t / 86400) ++ 100 :: (twoD (t % 86400 / 3600) ++ 58 :: (twoD (t % 3600 / 60) ++ 58 :: twoD (t % 60)))
/-- What number makes of one byte more. -/
def numStep (n : Int) (b : UInt8) : Int := IntKind.i64.wrap (IntKind.i64.wrap (IntKind.i64.wrap (n * 8) + IntKind.i64.wrap (n * 2)) + IntKind.u8.wrap ((b.toNat : Int) - 48))
def numF (n : Int) (l : List UInt8) : Int := l.foldl numStep n
def numN : Nat → List UInt8 → Nat
  | a, [] => a
  | a, b :: l => numN (a * 10 + (b.toNat - 48)) l
def digB (b : UInt8) : Prop := 48 ≤ b.toNat ∧ b.toNat ≤ 57
theorem i64_id {n : Int} (h0 : -9223372036854775808 ≤ n) (h1 : n ≤ 9223372036854775807) : IntKind.i64.wrap n = n := IntWalk.i64_in _ (by omega)
theorem wrap_r64 (n : Int) : R64 (IntKind.i64.wrap n) := by
  unfold R64
  rw [IntKind.wrap_i64]
  omega
theorem numN_ge : ∀ (l : List UInt8) (a : Nat), a ≤ numN a l
  | [], a => Nat.le_refl _
  | b :: l, a => Nat.le_trans (by omega) (numN_ge l (a * 10 + (b.toNat - 48)))
theorem numN_append : ∀ (l m : List UInt8) (a : Nat), numN a (l ++ m) = numN (numN a l) m
  | [], _, _ => rfl
  | b :: l, m, a => numN_append l m (a * 10 + (b.toNat - 48))
theorem numF_digits : ∀ (l : List UInt8) (a : Nat), (∀ b ∈ l, digB b) → (numN a l : Int) ≤ 9223372036854775807 → numF a l = numN a l
  | [], a, _, _ => rfl
  | b :: l, a, hd, hb => by
    have h1 := hd b (by simp)
    unfold digB at h1
    have h2 := numN_ge l (a * 10 + (b.toNat - 48))
    have h3 : (numN (a * 10 + (b.toNat - 48)) l : Int) ≤ 9223372036854775807 := hb
    have hs : numStep a b = ((a * 10 + (b.toNat - 48) : Nat) : Int) := by
      have h4 : ((a * 10 + (b.toNat - 48) : Nat) : Int) ≤ 9223372036854775807 := by omega
      unfold numStep
      rw [i64_id (n := (a : Int) * 8) (by omega) (by omega), i64_id (n := (a : Int) * 2) (by omega) (by omega), i64_id (n := (a : Int) * 8 + (a : Int) * 2) (by omega) (by omega)]
      have hu : IntKind.u8.wrap ((b.toNat : Int) - 48) = (b.toNat : Int) - 48 := by simp [IntKind.wrap, IntKind.bits, IntKind.signed]; omega
      rw [hu, i64_id (by omega) (by omega)]
      omega
    show numF (numStep a b) l = _
    rw [hs]
    exact numF_digits l _ (fun c hc => hd c (by simp [hc])) h3
theorem numF_r64 : ∀ (l : List UInt8) (a : Int), R64 a → R64 (numF a l)
  | [], _, h => h
  | _ :: l, _, _ => numF_r64 l _ (wrap_r64 _)
theorem of_digit {d : Nat} (h : d < 10) : (UInt8.ofNat (48 + d)).toNat = 48 + d := by rw [UInt8.toNat_ofNat']; omega
theorem dec_digits (u : Nat) : (∀ b ∈ Lib.decDigits u, digB b) ∧ numN 0 (Lib.decDigits u) = u := by
  induction u using Nat.strongRecOn with
  | ind u ih =>
    by_cases h : u < 10
    · rw [Lib.decDigits_one h]
      refine ⟨fun b hb => ?_, ?_⟩
      · rw [List.mem_singleton.1 hb]
        unfold digB
        rw [of_digit h]; omega
      · show 0 * 10 + ((UInt8.ofNat (48 + u)).toNat - 48) = u
        rw [of_digit h]; omega
    · rw [Lib.decDigits, dif_neg h]
      obtain ⟨h1, h2⟩ := ih (u / 10) (by omega)
      refine ⟨fun b hb => ?_, ?_⟩
      · rcases List.mem_append.1 hb with hb | hb
        · exact h1 b hb
        · rw [List.mem_singleton.1 hb]
          unfold digB
          rw [of_digit (by omega)]; omega
      · rw [numN_append, h2]
        show u / 10 * 10 + ((UInt8.ofNat (48 + u % 10)).toNat - 48) = u
        rw [of_digit (by omega)]; omega
theorem itoa_digits {n : Int} (h0 : 0 ≤ n) : (∀ b ∈ Lib.itoa n, digB b) ∧ (numN 0 (Lib.itoa n) : Int) = n := by
  have e : Lib.itoa n = Lib.decDigits n.toNat := by unfold Lib.itoa; rw [if_neg (by omega)]
  rw [e]
  have := dec_digits n.toNat
  exact ⟨this.1, by rw [this.2]; omega⟩
theorem two_digits {n : Int} (h0 : 0 ≤ n) (h1 : n < 100) : (∀ b ∈ twoD n, digB b) ∧ (numN 0 (twoD n) : Int) = n := by
  have e0 : (UInt8.ofNat (48 + n / 10).toNat).toNat = (48 + n / 10).toNat := by rw [UInt8.toNat_ofNat']; omega
  have e1 : (UInt8.ofNat (48 + n % 10).toNat).toNat = (48 + n % 10).toNat := by rw [UInt8.toNat_ofNat']; omega
  refine ⟨fun b hb => ?_, ?_⟩
  · unfold twoD at hb
    simp only [List.mem_cons, List.not_mem_nil, or_false] at hb
    unfold digB
    rcases hb with rfl | rfl
    · rw [e0]; omega
    · rw [e1]; omega
  · show (((0 * 10 + ((UInt8.ofNat (48 + n / 10).toNat).toNat - 48)) * 10 + ((UInt8.ofNat (48 + n % 10).toNat).toNat - 48) : Nat) : Int) = n
    rw [e0, e1]; omega
/-- What lies ahead of a byte's first place, and what behind it. -/
def before (l : List UInt8) (c : UInt8) : List UInt8 := l.takeWhile (fun b => b != c)
def after (l : List UInt8) (c : UInt8) : List UInt8 := (l.dropWhile (fun b => b != c)).drop 1
theorem cut_at {x y : List UInt8} {c : UInt8} (h : ∀ b ∈ x, b ≠ c) : before (x ++ c :: y) c = x ∧ after (x ++ c :: y) c = y := by
  induction x with
  | nil => exact ⟨by simp [before], by simp [after]⟩
  | cons b x ih =>
    have hb := h b (by simp)
    obtain ⟨i1, i2⟩ := ih (fun z hz => h z (by simp [hz]))
    unfold before after at *
    have : (b != c) = true := by simpa using hb
    exact ⟨by rw [List.cons_append, List.takeWhile_cons, this]; simp only [if_true]; rw [i1], by rw [List.cons_append, List.dropWhile_cons, this]; simp only [if_true]; exact i2⟩
/-- What read makes of a string. -/
def readV (l : List UInt8) : Int :=
  IntKind.i64.wrap (IntKind.i64.wrap (IntKind.i64.wrap (IntKind.i64.wrap (numF 0 (before l 100) * 86400) + IntKind.i64.wrap (numF 0 (before (after l 100) 58) * 3600)) + IntKind.i64.wrap (numF 0 (before (after (after l 100) 58) 58) * 60)) + numF 0 (after (after (after l 100) 58) 58))
theorem readV_r64 (l : List UInt8) : R64 (readV l) := wrap_r64 _
theorem dig_ne {b c : UInt8} (h : digB b) (hc : c = 100 ∨ c = 58) : b ≠ c := by
  unfold digB at h
  rintro rfl
  rcases hc with rfl | rfl
  · exact absurd h.2 (by decide)
  · exact absurd h.2 (by decide)
theorem readV_text {t : Int} (h0 : 0 ≤ t) (h1 : t ≤ 9223372036854775807) : readV (text t) = t := by
  have a0 := itoa_digits (n := t / 86400) (by omega)
  have a1 := two_digits (n := t % 86400 / 3600) (by omega) (by omega)
  have a2 := two_digits (n := t % 3600 / 60) (by omega) (by omega)
  have a3 := two_digits (n := t % 60) (by omega) (by omega)
  obtain ⟨b0, c0⟩ := cut_at (x := Lib.itoa (t / 86400)) (y := twoD (t % 86400 / 3600) ++ 58 :: (twoD (t % 3600 / 60) ++ 58 :: twoD (t % 60))) (c := 100) (fun b hb => dig_ne (a0.1 b hb) (Or.inl rfl))
  obtain ⟨b1, c1⟩ := cut_at (x := twoD (t % 86400 / 3600)) (y := twoD (t % 3600 / 60) ++ 58 :: twoD (t % 60)) (c := 58) (fun b hb => dig_ne (a1.1 b hb) (Or.inr rfl))
  obtain ⟨b2, c2⟩ := cut_at (x := twoD (t % 3600 / 60)) (y := twoD (t % 60)) (c := 58) (fun b hb => dig_ne (a2.1 b hb) (Or.inr rfl))
  unfold readV text
  rw [b0, c0, b1, c1, b2, c2]
  have n0 := numF_digits (Lib.itoa (t / 86400)) 0 a0.1 (by rw [a0.2]; omega)
  have n1 := numF_digits (twoD (t % 86400 / 3600)) 0 a1.1 (by rw [a1.2]; omega)
  have n2 := numF_digits (twoD (t % 3600 / 60)) 0 a2.1 (by rw [a2.2]; omega)
  have n3 := numF_digits (twoD (t % 60)) 0 a3.1 (by rw [a3.2]; omega)
  rw [show ((0 : Nat) : Int) = 0 from rfl] at n0 n1 n2 n3
  rw [n0, n1, n2, n3, a0.2, a1.2, a2.2, a3.2]
  rw [i64_id (n := t / 86400 * 86400) (by omega) (by omega), i64_id (n := t % 86400 / 3600 * 3600) (by omega) (by omega), i64_id (n := t % 3600 / 60 * 60) (by omega) (by omega), i64_id (n := t / 86400 * 86400 + t % 86400 / 3600 * 3600) (by omega) (by omega), i64_id (n := t / 86400 * 86400 + t % 86400 / 3600 * 3600 + t % 3600 / 60 * 60) (by omega) (by omega), i64_id (by omega) (by omega)]
  omega
theorem text_len {t : Int} (h0 : 0 ≤ t) (h1 : t ≤ 9223372036854775807) : (text t).length ≤ 30 := by
  have := Lib.itoa_length_le (t / 86400) (by omega) (by omega)
  unfold text twoD
  simp only [List.length_append, List.length_cons, List.length_nil]
  omega
/-- The string is the text of a time. -/
def TextOf (l : List UInt8) (t : Int) : Prop := 0 ≤ t ∧ t ≤ 9223372036854775807 ∧ l = text t
/-- What Parse returns. -/
def PRes (l : List UInt8) (v e : Int) : Prop := (TextOf l v ∧ e = 0) ∨ ((∀ t, ¬ TextOf l t) ∧ v = 0 ∧ e = 6)
theorem textOf_inj {l : List UInt8} {t u : Int} (h : TextOf l t) (k : TextOf l u) : t = u := by
  rw [← readV_text h.1 h.2.1, ← readV_text k.1 k.2.1, ← h.2.2, ← k.2.2]
theorem pres_eq {l : List UInt8} {v e v' e' : Int} (h : PRes l v e) (k : PRes l v' e') : v = v' ∧ e = e' := by
  rcases h with ⟨h1, rfl⟩ | ⟨h1, rfl, rfl⟩ <;> rcases k with ⟨k1, rfl⟩ | ⟨k1, rfl, rfl⟩
  · exact ⟨textOf_inj h1 k1, rfl⟩
  · exact absurd h1 (k1 _)
  · exact absurd k1 (h1 _)
  · exact ⟨rfl, rfl⟩
/-- What Print returns. -/
def printL (t : Int) : List UInt8 := if 0 ≤ t then text t else []
def printE (t : Int) : Int := if 0 ≤ t then 0 else 7
end T
end Go.Proofs.YtnehllkklmdpfaaDoor
