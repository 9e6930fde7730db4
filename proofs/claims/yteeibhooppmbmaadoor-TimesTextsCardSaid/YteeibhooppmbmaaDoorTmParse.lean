/- The form of a time's text, place by place. No program is walked here. -/
import Derived.Test.YteeibhooppmbmaaDoorTmRText
namespace Go.Proofs.YteeibhooppmbmaaDoor
open Go.RowKit
namespace T
/-- The byte at a place, as a number. -/
def bt_ (l : List UInt8) (p : Nat) : Nat := (l.getD p 0).toNat
def dg (l : List UInt8) (p : Nat) : Int := (bt_ l p : Int) - 48
/-- The form of a time's text with N digits of days. -/
structure Shape (l : List UInt8) (N : Nat) : Prop where
  len : l.length = N + 9
  n1 : 1 ≤ N
  n15 : N ≤ 15
  d0 : bt_ l N = 100
  c1 : bt_ l (N + 3) = 58
  c2 : bt_ l (N + 6) = 58
  digs : ∀ p, p < N + 9 → p ≠ N → p ≠ N + 3 → p ≠ N + 6 → 48 ≤ bt_ l p ∧ bt_ l p ≤ 57
def valT (l : List UInt8) (N : Nat) : Int := (numN 0 (l.take N) : Int) * 86400 + (10 * dg l (N + 1) + dg l (N + 2)) * 3600 + (10 * dg l (N + 4) + dg l (N + 5)) * 60 + (10 * dg l (N + 7) + dg l (N + 8))
theorem dec_len : ∀ (k u : Nat), u < 10 ^ (k + 1) → (Lib.decDigits u).length ≤ k + 1
  | 0, u, h => by rw [Lib.decDigits_one (by simpa using h)]; simp
  | k + 1, u, h => by
    by_cases h9 : u < 10
    · rw [Lib.decDigits_one h9]; simp
    · rw [Lib.decDigits, dif_neg h9, List.length_append]
      have := dec_len k (u / 10) (by rw [Nat.pow_succ] at h; omega)
      simp only [List.length_cons, List.length_nil]
      omega
theorem dec_pos (u : Nat) : 1 ≤ (Lib.decDigits u).length := by
  by_cases h9 : u < 10
  · rw [Lib.decDigits_one h9]; simp
  · rw [Lib.decDigits, dif_neg h9, List.length_append]; simp
theorem itoa_len15 {n : Int} (h0 : 0 ≤ n) (h1 : n ≤ 106751991167300) : 1 ≤ (Lib.itoa n).length ∧ (Lib.itoa n).length ≤ 15 := by
  have e : Lib.itoa n = Lib.decDigits n.toNat := by unfold Lib.itoa; rw [if_neg (by omega)]
  rw [e]
  exact ⟨dec_pos _, dec_len 14 _ (by have : (10 : Nat) ^ (14 + 1) = 1000000000000000 := by decide
                                     omega)⟩
theorem text_at {t : Int} {x : List UInt8} (hx : Lib.itoa (t / 86400) = x) (p : Nat) :
    (p < x.length → (text t).getD p 0 = x.getD p 0) ∧ (text t).getD x.length 0 = 100 ∧ (text t).getD (x.length + 1) 0 = UInt8.ofNat (48 + t % 86400 / 3600 / 10).toNat ∧ (text t).getD (x.length + 2) 0 = UInt8.ofNat (48 + t % 86400 / 3600 % 10).toNat ∧ (text t).getD (x.length + 3) 0 = 58
    ∧ (text t).getD (x.length + 4) 0 = UInt8.ofNat (48 + t % 3600 / 60 / 10).toNat ∧ (text t).getD (x.length + 5) 0 = UInt8.ofNat (48 + t % 3600 / 60 % 10).toNat ∧ (text t).getD (x.length + 6) 0 = 58
    ∧ (text t).getD (x.length + 7) 0 = UInt8.ofNat (48 + t % 60 / 10).toNat ∧ (text t).getD (x.length + 8) 0 = UInt8.ofNat (48 + t % 60 % 10).toNat := by
  unfold text twoD
  rw [hx]
  have R : ∀ (y : List UInt8) (i : Nat), (x ++ y).getD (x.length + i) 0 = y.getD i 0 := fun y i => by
    rw [List.getD_eq_getElem?_getD, List.getD_eq_getElem?_getD, List.getElem?_append_right (by omega), Nat.add_sub_cancel_left]
  refine ⟨fun hp => ?_, R _ 0, R _ 1, R _ 2, R _ 3, R _ 4, R _ 5, R _ 6, R _ 7, R _ 8⟩
  rw [List.getD_eq_getElem?_getD, List.getD_eq_getElem?_getD, List.getElem?_append_left hp]
theorem of_dig {n : Int} (h0 : 0 ≤ n) (h1 : n < 10) : (UInt8.ofNat (48 + n).toNat).toNat = (48 + n).toNat := by rw [UInt8.toNat_ofNat']; omega
theorem shape_text {t : Int} (h0 : 0 ≤ t) (h1 : t ≤ 9223372036854775807) : ∃ N, Shape (text t) N ∧ valT (text t) N = t := by
  obtain ⟨x, hx⟩ : ∃ x, Lib.itoa (t / 86400) = x := ⟨_, rfl⟩
  have hd := itoa_digits (n := t / 86400) (by omega)
  have hl := itoa_len15 (n := t / 86400) (by omega) (by omega)
  rw [hx] at hd hl
  have A := fun p => text_at hx p
  obtain ⟨_, a0, a1, a2, a3, a4, a5, a6, a7, a8⟩ := A 0
  have e1 := of_dig (n := t % 86400 / 3600 / 10) (by omega) (by omega)
  have e2 := of_dig (n := t % 86400 / 3600 % 10) (by omega) (by omega)
  have e4 := of_dig (n := t % 3600 / 60 / 10) (by omega) (by omega)
  have e5 := of_dig (n := t % 3600 / 60 % 10) (by omega) (by omega)
  have e7 := of_dig (n := t % 60 / 10) (by omega) (by omega)
  have e8 := of_dig (n := t % 60 % 10) (by omega) (by omega)
  have b0 : bt_ (text t) x.length = 100 := by unfold bt_; rw [a0]; rfl
  have b3 : bt_ (text t) (x.length + 3) = 58 := by unfold bt_; rw [a3]; rfl
  have b6 : bt_ (text t) (x.length + 6) = 58 := by unfold bt_; rw [a6]; rfl
  have b1 : (bt_ (text t) (x.length + 1) : Int) = 48 + t % 86400 / 3600 / 10 := by unfold bt_; rw [a1, e1]; omega
  have b2 : (bt_ (text t) (x.length + 2) : Int) = 48 + t % 86400 / 3600 % 10 := by unfold bt_; rw [a2, e2]; omega
  have b4 : (bt_ (text t) (x.length + 4) : Int) = 48 + t % 3600 / 60 / 10 := by unfold bt_; rw [a4, e4]; omega
  have b5 : (bt_ (text t) (x.length + 5) : Int) = 48 + t % 3600 / 60 % 10 := by unfold bt_; rw [a5, e5]; omega
  have b7 : (bt_ (text t) (x.length + 7) : Int) = 48 + t % 60 / 10 := by unfold bt_; rw [a7, e7]; omega
  have b8 : (bt_ (text t) (x.length + 8) : Int) = 48 + t % 60 % 10 := by unfold bt_; rw [a8, e8]; omega
  have hlen : (text t).length = x.length + 9 := by unfold text twoD; rw [hx]; simp
  refine ⟨x.length, ⟨hlen, hl.1, hl.2, b0, b3, b6, fun p hp h2 h3 h4 => ?_⟩, ?_⟩
  · by_cases hpx : p < x.length
    · have := (A p).1 hpx
      unfold bt_
      rw [this, List.getD_eq_getElem?_getD, List.getElem?_eq_getElem hpx]
      exact hd.1 _ (List.getElem_mem hpx)
    · have : p = x.length + 1 ∨ p = x.length + 2 ∨ p = x.length + 4 ∨ p = x.length + 5 ∨ p = x.length + 7 ∨ p = x.length + 8 := by omega
      rcases this with rfl | rfl | rfl | rfl | rfl | rfl <;> omega
  · have ht : (text t).take x.length = x := by unfold text; rw [hx, List.take_left']; rfl
    unfold valT dg
    rw [ht, hd.2, b1, b2, b4, b5, b7, b8]
    omega
theorem textOf_shape {l : List UInt8} {t : Int} (h : TextOf l t) : ∃ N, Shape l N ∧ valT l N = t := by
  obtain ⟨h0, h1, rfl⟩ := h
  exact shape_text h0 h1
/-- What is no text. -/
theorem no_text {l : List UInt8} (h : ∀ N, Shape l N → False) : ∀ t, ¬ TextOf l t := fun t k => by
  obtain ⟨N, s, _⟩ := textOf_shape k
  exact h N s
end T
end Go.Proofs.YteeibhooppmbmaaDoor
