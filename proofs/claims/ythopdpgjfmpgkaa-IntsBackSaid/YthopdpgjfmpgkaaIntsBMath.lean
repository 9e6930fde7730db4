/- IntsBack as arithmetic of bytes: what is written reads as it was, and what is read is written so. -/
import Derived.Test.YthopdpgjfmpgkaaIntsLaw2
import Derived.Test.YthopdpgjfmpgkaaIntsLaw5
namespace Go.Proofs.Ythopdpgjfmpgkaa
open Go.RowKit
namespace I
theorem be_snoc : ∀ (k N : Nat), be N (k + 1) = be (N / 256) k ++ [UInt8.ofNat N]
  | 0, N => by simp [be]
  | k + 1, N => by
    have ih := be_snoc k N
    have e : N / 2 ^ (8 * (k + 1)) = N / 256 / 2 ^ (8 * k) := by
      rw [Nat.div_div_eq_div_mul, Nat.mul_add, Nat.pow_add, Nat.mul_comm (2 ^ (8 * k))]
    rw [be, ih, e]
    simp [be]
theorem be_bv (l : List UInt8) : ∀ k, k ≤ l.length → be (bv (l.take k)) k = l.take k
  | 0, _ => by simp [be]
  | k + 1, h => by
    have ih := be_bv l k (by omega)
    have hk : k < l.length := by omega
    have ha := at_lt l k
    rw [be_snoc, bv_step hk, take_snoc hk]
    have e1 : (256 * bv (l.take k) + at' l k) / 256 = bv (l.take k) := by omega
    have e2 : UInt8.ofNat (256 * bv (l.take k) + at' l k) = l[k] := by
      rw [ofNat_eq (b := at' l k) (by omega), ← at_eq hk, UInt8.ofNat_toNat]
    rw [e1, e2, ih]
theorem bv_be : ∀ (k N : Nat), N < 2 ^ (8 * k) → bv (be N k) = N
  | 0, N, h => by simp at h; subst h; rfl
  | k + 1, N, h => by
    have hp : 2 ^ (8 * (k + 1)) = 2 ^ (8 * k) * 256 := by rw [Nat.mul_add, Nat.pow_add]
    rw [be_snoc, bv_snoc, bv_be k (N / 256) (by omega), UInt8.toNat_ofNat']
    omega
/-- What Get reads, Put writes. -/
theorem read_put {l : List UInt8} {k : Nat} (h1 : 1 ≤ k) (h2 : k ≤ 8) (h : k ≤ l.length) : putOk (bv (l.take k)) k = true ∧ putL [] (bv (l.take k)) k ++ l.drop k = l := by
  have hok : putOk (bv (l.take k)) k = true := by rw [putOk_nat h1 h2]; exact decide_eq_true (bv_bd l k h)
  refine ⟨hok, ?_⟩
  rw [putL_yes hok, List.nil_append, be_bv l k h, List.take_append_drop]
/-- What Put writes, Get reads. -/
theorem put_read {l : List UInt8} {k U : Nat} (h1 : 1 ≤ k) (h2 : k ≤ 8) (h : putOk U k = true) : getN (putL [] U k ++ l) k = U ∧ getR (putL [] U k ++ l) k = l ∧ getE (putL [] U k ++ l) k = 0 := by
  have hU : U < 2 ^ (8 * k) := by rw [putOk_nat h1 h2] at h; exact of_decide_eq_true h
  rw [putL_yes h, List.nil_append]
  have hl : (be U k).length = k := be_len U k
  have hg := get_yes (l := be U k ++ l) h1 h2 (by rw [List.length_append, hl]; omega)
  rw [List.take_left' hl, List.drop_left' hl, bv_be k U hU] at hg
  exact hg
theorem vv_pos {xs : List UInt8} {c : UInt8} (h : c.toNat % 128 ≠ 0) : 1 ≤ vv (xs ++ [c]) := by
  rw [vv_snoc]
  have : 1 ≤ c.toNat % 128 * 128 ^ xs.length := Nat.mul_pos (by omega) (Nat.pow_pos (by decide))
  omega
theorem vb_vv : ∀ (xs : List UInt8) (c : UInt8), (∀ x ∈ xs, 128 ≤ x.toNat) → c.toNat < 128 → (xs ≠ [] → c.toNat ≠ 0) → vb (vv (xs ++ [c])) = xs ++ [c]
  | [], c, _, hc, _ => by
    have e : vv ([] ++ [c]) = c.toNat := by simp [vv]; omega
    rw [e, vb_small hc, UInt8.ofNat_toNat]; rfl
  | x :: xs, c, hx, hc, h0 => by
    have hc0 := h0 (by simp)
    have ih := vb_vv xs c (fun y hy => hx y (by simp [hy])) hc (fun _ => hc0)
    have hp := vv_pos (xs := xs) (c := c) (by omega)
    have hx1 := hx x (by simp)
    have hx2 := UInt8.toNat_lt x
    have e : vv (x :: xs ++ [c]) = x.toNat % 128 + 128 * vv (xs ++ [c]) := rfl
    rw [e, vb_big (by omega)]
    have e1 : 128 + (x.toNat % 128 + 128 * vv (xs ++ [c])) % 128 = x.toNat := by omega
    have e2 : (x.toNat % 128 + 128 * vv (xs ++ [c])) / 128 = vv (xs ++ [c]) := by omega
    rw [e1, e2, ih, UInt8.ofNat_toNat]; rfl
/-- What GetVar reads, PutVar writes. -/
theorem gv_vb {l r : List UInt8} {N : Nat} (h : GV l N r 0) : vb N ++ r = l := by
  obtain ⟨k, hk, ha, h⟩ := h
  rcases h with ⟨_, _, _, _, h⟩ | ⟨_, _, _, _, _, h⟩ | ⟨_, _, _, _, _, _, _, _, h⟩ | ⟨h1, h2, h3, h4, h5, h6, h7, _⟩
  · omega
  · omega
  · omega
  · rw [h6, h7, take_snoc h1]
    rw [vb_vv]
    · rw [← take_snoc h1, List.take_append_drop]
    · intro x hx
      obtain ⟨j, hj, rfl⟩ := List.mem_iff_getElem.1 hx
      rw [List.length_take] at hj
      rw [List.getElem_take, at_eq]
      exact ha j (by omega)
    · rw [at_eq h1]; exact h3
    · intro hne
      rw [at_eq h1]
      refine h5 ?_
      rcases Nat.eq_zero_or_pos k with rfl | hp
      · simp at hne
      · exact hp
theorem vb_form : ∀ (n U : Nat), U < n → ∃ (xs : List UInt8) (c : UInt8), vb U = xs ++ [c] ∧ (∀ x ∈ xs, 128 ≤ x.toNat) ∧ c.toNat < 128 ∧ (xs ≠ [] → c.toNat ≠ 0) ∧ vv (xs ++ [c]) = U
  | 0, _, h => by omega
  | n + 1, U, hU => by
    by_cases hs : U < 128
    · have e : (UInt8.ofNat U).toNat = U := by rw [UInt8.toNat_ofNat']; omega
      refine ⟨[], UInt8.ofNat U, vb_small hs, by simp, by rw [e]; exact hs, by simp, ?_⟩
      simp only [List.nil_append, vv, e]; omega
    · obtain ⟨xs, c, h1, h2, h3, h4, h5⟩ := vb_form n (U / 128) (by omega)
      have e : (UInt8.ofNat (128 + U % 128)).toNat = 128 + U % 128 := by rw [UInt8.toNat_ofNat']; omega
      refine ⟨UInt8.ofNat (128 + U % 128) :: xs, c, by rw [vb_big hs, h1]; rfl, ?_, h3, fun _ h0 => ?_, ?_⟩
      · intro x hx
        rcases List.mem_cons.1 hx with rfl | hx
        · rw [e]; omega
        · exact h2 x hx
      · cases xs with
        | nil => simp only [List.nil_append, vv, h0] at h5; omega
        | cons y ys => exact h4 (by simp) h0
      · show (UInt8.ofNat (128 + U % 128)).toNat % 128 + 128 * vv (xs ++ [c]) = U
        rw [e, h5]; omega
theorem at_left {xs ys : List UInt8} {j : Nat} (h : j < xs.length) : at' (xs ++ ys) j = (xs[j]).toNat := by
  unfold at'
  rw [List.getD_eq_getElem?_getD, List.getElem?_append_left h, List.getElem?_eq_getElem h]; rfl
theorem at_mid {xs ys : List UInt8} {c : UInt8} : at' (xs ++ [c] ++ ys) xs.length = c.toNat := by
  unfold at'
  rw [List.getD_eq_getElem?_getD, List.append_assoc, List.getElem?_append_right (Nat.le_refl _)]; simp
/-- What PutVar writes, GetVar reads. -/
theorem vb_gv {U : Nat} (l : List UInt8) (hU : U < 18446744073709551616) : GV (vb U ++ l) U l 0 := by
  obtain ⟨xs, c, h1, h2, h3, h4, h5⟩ := vb_form (U + 1) U (by omega)
  have h10 := vb_len10 hU
  rw [h1, List.length_append] at h10
  simp only [List.length_cons, List.length_nil] at h10
  have hlen : (xs ++ [c]).length = xs.length + 1 := by simp
  rw [h1]
  have hc : at' (xs ++ [c] ++ l) xs.length = c.toNat := at_mid
  refine ⟨xs.length, by simp, fun j hj => ?_, Or.inr (Or.inr (Or.inr ⟨by simp, by omega, by rw [hc]; exact h3, fun h9 => ?_, fun h0 => ?_, ?_, ?_, rfl⟩))⟩
  · rw [List.append_assoc, at_left hj]
    exact h2 _ (List.getElem_mem _)
  · rw [← h9, hc]
    rw [vv_snoc, h9] at h5
    have e : (128 : Nat) ^ 9 = 9223372036854775808 := by decide
    rw [e] at h5
    omega
  · rw [hc]
    refine h4 (fun e => ?_)
    rw [e] at h0; simp at h0
  · rw [List.take_left' hlen, h5]
  · rw [List.drop_left' hlen]
theorem gv_err_cases {l r : List UInt8} {N : Nat} {E : Int} (h : GV l N r E) : E = 0 ∨ E = 6 ∨ E = 7 ∨ E = 10 := by
  obtain ⟨k, hk, ha, h⟩ := h
  rcases h with ⟨_, _, _, _, h⟩ | ⟨_, _, _, _, _, h⟩ | ⟨_, _, _, _, _, _, _, _, h⟩ | ⟨h1, h2, h3, h4, h5, h6, h7, h⟩ <;> omega
theorem zig_nat {n : Int} (h1 : -9223372036854775808 ≤ n) (h2 : n ≤ 9223372036854775807) : ∃ Z : Nat, zigN n = (Z : Int) ∧ Z < 18446744073709551616 ∧ zagN Z = n := by
  refine ⟨(zigN n).toNat, ?_, ?_, ?_⟩
  · unfold zigN; split <;> omega
  · unfold zigN; split <;> omega
  · unfold zigN zagN; split <;> split <;> omega
theorem zag_zig {U : Nat} (h : U < 18446744073709551616) : (-9223372036854775808 ≤ zagN U ∧ zagN U ≤ 9223372036854775807) ∧ zigN (zagN U) = (U : Int) := by
  unfold zigN zagN
  refine ⟨?_, ?_⟩
  · split <;> omega
  · split <;> split <;> omega
theorem fit_wid {n b : Int} {sg : Bool} (h2 : n ≤ 9223372036854775807) (h : fitOk n b sg = true) : ∃ M : Nat, fitV n b sg = (M : Int) ∧ M < 18446744073709551616 ∧ widOk M b sg = true ∧ widV M b sg = n := by
  have hb : 1 ≤ b ∧ b ≤ 64 := by
    unfold fitOk at h
    exact ⟨(of_decide_eq_true h).1, (of_decide_eq_true h).2.1⟩
  obtain ⟨B, rfl⟩ := Int.eq_ofNat_of_zero_le (show 0 ≤ b by omega)
  have h1' : 1 ≤ B := by omega
  have h2' : B ≤ 64 := by omega
  have hp := pow_le_64 h2'
  have hl := low_lt n B
  exact ⟨low n B, fit_val h1' h, by omega, (fit_iff h1' h2' (by omega)).1 h⟩
theorem wid_fit {U : Nat} {b : Int} {sg : Bool} (h : widOk U b sg = true) : (-9223372036854775808 ≤ widV U b sg ∧ widV U b sg ≤ 9223372036854775807) ∧ fitOk (widV U b sg) b sg = true ∧ fitV (widV U b sg) b sg = (U : Int) := by
  have h' := h
  unfold widOk at h
  have hd := of_decide_eq_true h
  obtain ⟨h1, h2, h3, h4⟩ := hd
  obtain ⟨B, rfl⟩ := Int.eq_ofNat_of_zero_le (show 0 ≤ b by omega)
  rw [Int.toNat_natCast] at h3
  have hh := pow_halves (b := B) (by omega)
  have hp := pow_pos (B - 1)
  have h63 : 2 ^ (B - 1) ≤ 2 ^ 63 := Nat.pow_le_pow_right (by decide) (by omega)
  have e63 : (2 : Nat) ^ 63 = 9223372036854775808 := by decide
  rw [e63] at h63
  have hv : widV U B sg = if sg = true ∧ 2 ^ (B - 1) ≤ U then (U : Int) - ((2 ^ B : Nat) : Int) else U := by
    unfold widV; rw [if_pos h', Int.toNat_natCast]
  have hf : fitOk (widV U B sg) B sg = true := by
    unfold fitOk
    refine decide_eq_true ⟨h1, h2, ?_⟩
    rw [hv, Int.toNat_natCast]
    cases sg
    · simp only [Bool.false_eq_true, if_false, false_and]; omega
    · simp only [if_true, true_and]
      split <;> omega
  refine ⟨?_, hf, ?_⟩
  · rw [hv]; split
    · omega
    · cases sg
      · simp at h4; omega
      · rename_i hn; simp only [true_and] at hn; omega
  · unfold fitV
    rw [if_pos hf, hv, Int.toNat_natCast]
    cases sg
    · simp only [Bool.false_eq_true, if_false, false_and]; rw [if_neg (by omega)]
    · simp only [true_and]
      split <;> split <;> omega
end I
end Go.Proofs.Ythopdpgjfmpgkaa
