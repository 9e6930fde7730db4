/- Contracts of Get of package ints and of its reference. -/
import Derived.Test.YthopdpgjfmpgkaaIntsGv
namespace Go.Proofs.Ythopdpgjfmpgkaa
open Go.RowKit
namespace I
/-- The number of big-endian bytes. -/
def bv (l : List UInt8) : Nat := l.foldl (fun a c => 256 * a + c.toNat) 0
theorem bv_snoc (l : List UInt8) (c : UInt8) : bv (l ++ [c]) = 256 * bv l + c.toNat := by simp [bv]
theorem bv_step {l : List UInt8} {k : Nat} (h : k < l.length) : bv (l.take (k + 1)) = 256 * bv (l.take k) + at' l k := by
  rw [take_snoc h, bv_snoc, at_eq h]
theorem bv_bd (l : List UInt8) : ∀ k, k ≤ l.length → bv (l.take k) < 2 ^ (8 * k)
  | 0, _ => by simp [bv]
  | k + 1, h => by
    have := bv_bd l k (by omega)
    have h2 := at_lt l k
    rw [bv_step (by omega), Nat.mul_add, Nat.pow_add]
    omega
theorem bv_64 {l : List UInt8} {k : Nat} (hk : k ≤ l.length) (h8 : k ≤ 8) : bv (l.take k) < 18446744073709551616 :=
  Nat.lt_of_lt_of_le (bv_bd l k hk) (pow_le_64 (by omega))
theorem bv_mul {l : List UInt8} {k : Nat} (hk : k ≤ l.length) (h8 : k < 8) : 256 * bv (l.take k) + 255 < 18446744073709551616 := by
  have h1 := bv_bd l k hk
  have h2 : 2 ^ (8 * k) ≤ 2 ^ 56 := Nat.pow_le_pow_right (by decide) (by omega)
  omega
def getE (l : List UInt8) (b : Int) : Int := if 1 ≤ b ∧ b ≤ 8 then (if (l.length : Int) < b then 10 else 0) else 7
def getN (l : List UInt8) (b : Int) : Nat := if getE l b = 0 then bv (l.take b.toNat) else 0
def getR (l : List UInt8) (b : Int) : List UInt8 := if getE l b = 0 then l.drop b.toNat else []
theorem get_bad {l : List UInt8} {b : Int} (h : ¬ (1 ≤ b ∧ b ≤ 8)) : getN l b = 0 ∧ getR l b = [] ∧ getE l b = 7 := by
  have e : getE l b = 7 := by unfold getE; rw [if_neg h]
  unfold getN getR; rw [e]; exact ⟨rfl, rfl, rfl⟩
theorem get_more {l : List UInt8} {k : Nat} (h1 : 1 ≤ k) (h2 : k ≤ 8) (h : l.length < k) : getN l k = 0 ∧ getR l k = [] ∧ getE l k = 10 := by
  have e : getE l k = 10 := by unfold getE; rw [if_pos (by omega), if_pos (by omega)]
  unfold getN getR; rw [e]; exact ⟨rfl, rfl, rfl⟩
theorem get_yes {l : List UInt8} {k : Nat} (h1 : 1 ≤ k) (h2 : k ≤ 8) (h : k ≤ l.length) : getN l k = bv (l.take k) ∧ getR l k = l.drop k ∧ getE l k = 0 := by
  have e : getE l k = 0 := by unfold getE; rw [if_pos (by omega), if_neg (by omega)]
  unfold getN getR; rw [e, Int.toNat_natCast]; exact ⟨rfl, rfl, rfl⟩
theorem get_form {M x : Nat} (hx : x < 256) (hM : 256 * M + 255 < 18446744073709551616) : bits .or .u64 ((M : Int) * 256) (x : Int) = ((256 * M + x : Nat) : Int) := by
  have e : (M : Int) * 256 = ((M * 2 ^ 8 : Nat) : Int) := by
    rw [Int.natCast_mul]
    have : ((2 ^ 8 : Nat) : Int) = 256 := by decide
    rw [this]
  rw [e, u64_or_nat _ _ (by omega) (by omega), Nat.or_comm, or_add (by omega)]
  omega
end I
/-- What a call of Get leaves. -/
def GetPost (l : List UInt8) (b : Int) (w : World) (e : Ending) (w' : World) : Prop :=
  ∃ (A' : Option Addr) (n c' : Nat), e = .returned (.tuple #[.int .u64 (I.getN l b : Nat), .slice A' n c', .int .i64 (I.getE l b)]) ∧ n = (I.getR l b).length ∧ BytesIn w' w.heap.size A' c' (I.getR l b) ∧ Below w.heap.size w w'
theorem get_no {l : List UInt8} {b : Int} {w : World} {E : Int} (h : I.getN l b = 0 ∧ I.getR l b = [] ∧ I.getE l b = E) : GetPost l b w (.returned (.tuple #[.int .u64 0, .slice none 0 0, .int .i64 E])) w := by
  obtain ⟨h1, h2, h3⟩ := h
  refine ⟨none, 0, 0, by rw [h1, h3]; rfl, by rw [h2]; rfl, by rw [h2]; exact BytesIn.nil_ _ _, Below.refl _ _⟩
theorem get_ok {l : List UInt8} {k : Nat} {w w' : World} {A' : Option Addr} {n c' M : Nat} (h : I.getN l k = M ∧ I.getR l k = l.drop k ∧ I.getE l k = 0) (hn : n = (l.drop k).length) (hin : BytesIn w' w.heap.size A' c' (l.drop k)) (hb : Below w.heap.size w w') :
    GetPost l k w (.returned (.tuple #[.int .u64 M, .slice A' n c', .int .i64 0])) w' := by
  obtain ⟨h1, h2, h3⟩ := h
  exact ⟨A', n, c', by rw [h1, h3], by rw [h2]; exact hn, by rw [h2]; exact hin, hb⟩
theorem BytesIn.cut_at {w : World} {B : Nat} {ad : Addr} {c : Nat} {l : List UInt8} (h : BytesIn w B (some ad) c l) {k : Nat} (hk : k ≤ l.length) (hc : ¬ c = k) : BytesIn w B (some (ad.add k)) (c - k) (l.drop k) := by
  have := h.cut hk
  rw [if_neg hc] at this
  exact this

set_option maxRecDepth 100000 in
set_option maxHeartbeats 1000000 in
theorem Get_ok (ad : Addr) (c : Nat) (l : List UInt8) (k : Nat) (w : World) (hb : BytesIn w w.heap.size (some ad) c l) (h1 : 1 ≤ k) (h2 : k ≤ 8) (hk : k ≤ l.length) :
    Calls Try.prog 15 #[.slice (some ad) l.length c, .int .i64 k] w (GetPost l k w) := by
  have hlc := hb.le
  have hcm := hb.cap
  unfold maxLen at hcm
  have HD := Lib.hid (show (decide (1 ≤ (k : Int)) && decide ((k : Int) ≤ 8)) = true by simp; omega)
  have HY := Lib.hid (I.get_yes h1 h2 hk)
  have HLen := Lib.hid (show l.length - k = (l.drop k).length from List.length_drop.symm)
  go_enter Try.func15, Try.ntmps15
  go_wp2_with fail
  refine (isWidth_any _ _).mono ?_
  rintro e w' ⟨rfl, rfl⟩
  rw [HD.out]
  go_wp2_with fail
  go_loop [4, 20] (fun n i => ∃ j M : Nat, j ≤ k ∧ i = .int .i64 j ∧ n = .int .u64 M ∧ M < 18446744073709551616 ∧ Hid (M = I.bv (l.take j))) (fun _ i => k - (intOf i).toNat)
  case atStart => exact ⟨0, 0, Nat.zero_le _, rfl, rfl, by omega, Lib.hid rfl⟩
  case round =>
    obtain ⟨j, M, hj, rfl, rfl, hM, HM⟩ := hrel
    by_cases hlt : j < k
    · obtain ⟨ad', e', hc⟩ := hb.at_ (show j < l.length by omega)
      obtain rfl : ad = ad' := by injection e'
      rw [I.at_eq (by omega)] at hc
      obtain ⟨x, hx⟩ : ∃ x, I.at' l j = x := ⟨_, rfl⟩
      have hx256 : x < 256 := by rw [← hx]; exact I.at_lt l j
      have hm2 : 256 * M + 255 < 18446744073709551616 := by rw [HM.out]; exact I.bv_mul (by omega) (by omega)
      have HF := Lib.hid (I.get_form hx256 hm2)
      have HN : Hid (256 * M + x = I.bv (l.take (j + 1))) := Lib.hid (by rw [I.bv_step (by omega), hx, HM.out])
      rw [hx] at hc
      clear hx e'
      go_wp2_with fail
      go_round
      case rel => exact ⟨j + 1, 256 * M + x, by omega, by go_num, I.val_u64 HF.out, by omega, HN⟩
      case measure => simp [intOf]; omega
    · obtain rfl : j = k := by omega
      have HYM : Hid (I.getN l j = M ∧ I.getR l j = l.drop j ∧ I.getE l j = 0) := Lib.hid (by rw [HM.out]; exact HY.out)
      by_cases hcc : c = j
      · have HCut := Lib.hid (hb.cut_end hk hcc)
        go_wp2_with fail
        go_quiet (fail)
        go_wp2_with fail
        go_ret3
        exact get_ok HYM.out HLen.out (HCut.out.drewN _) (I.below_drewN (Below.refl _ _) _)
      · have HCut := Lib.hid (hb.cut_at hk hcc)
        go_wp2_with fail
        go_quiet (fail)
        go_wp2_with fail
        go_ret3
        exact get_ok HYM.out HLen.out (HCut.out.drewN _) (I.below_drewN (Below.refl _ _) _)
set_option maxHeartbeats 400000 in
theorem Get_any (A : Option Addr) (c : Nat) (l : List UInt8) (b : Int) (w : World) (hb : BytesIn w w.heap.size A c l) :
    Calls Try.prog 15 #[.slice A l.length c, .int .i64 b] w (GetPost l b w) := by
  by_cases hw : 1 ≤ b ∧ b ≤ 8
  · obtain ⟨k, rfl⟩ := Int.eq_ofNat_of_zero_le (show 0 ≤ b by omega)
    by_cases hk : k ≤ l.length
    · cases A with
      | none => obtain ⟨rfl, _⟩ := hb.none_ rfl; simp at hk; omega
      | some ad => exact Get_ok ad c l k w hb (by omega) (by omega) hk
    · have HD := Lib.hid (show (decide (1 ≤ (k : Int)) && decide ((k : Int) ≤ 8)) = true by simp; omega)
      have HO := Lib.hid (I.get_more (l := l) (k := k) (by omega) (by omega) (by omega))
      have hlt : (l.length : Int) < k := by omega
      clear hk
      go_enter Try.func15, Try.ntmps15
      go_wp2_with fail
      refine (isWidth_any _ _).mono ?_
      rintro e w' ⟨rfl, rfl⟩
      rw [HD.out]
      go_wp2_with fail
      go_ret3
      exact get_no HO.out
  · have HD := Lib.hid (show (decide (1 ≤ b) && decide (b ≤ 8)) = false by simpa using hw)
    have HO := Lib.hid (I.get_bad (l := l) hw)
    clear hw
    go_enter Try.func15, Try.ntmps15
    go_wp2_with fail
    refine (isWidth_any _ _).mono ?_
    rintro e w' ⟨rfl, rfl⟩
    rw [HD.out]
    go_wp2_with fail
    go_ret3
    exact get_no HO.out

set_option maxRecDepth 100000 in
set_option maxHeartbeats 1000000 in
theorem RGet_ok (ad : Addr) (c : Nat) (l : List UInt8) (k : Nat) (w : World) (hb : BytesIn w w.heap.size (some ad) c l) (h1 : 1 ≤ k) (h2 : k ≤ 8) (hk : k ≤ l.length) :
    Calls Try.prog 16 #[.slice (some ad) l.length c, .int .i64 k] w (GetPost l k w) := by
  have hlc := hb.le
  have hcm := hb.cap
  unfold maxLen at hcm
  have HY := Lib.hid (I.get_yes h1 h2 hk)
  have HLen := Lib.hid (show l.length - k = (l.drop k).length from List.length_drop.symm)
  go_enter Try.func16, Try.ntmps16
  go_wp2_with fail
  go_loop [7, 8] (fun n i => ∃ j M : Nat, j ≤ k ∧ i = .int .i64 j ∧ n = .int .u64 M ∧ M < 18446744073709551616 ∧ Hid (M = I.bv (l.take j))) (fun _ i => k - (intOf i).toNat)
  case atStart => exact ⟨0, 0, Nat.zero_le _, rfl, rfl, by omega, Lib.hid rfl⟩
  case round =>
    obtain ⟨j, M, hj, rfl, rfl, hM, HM⟩ := hrel
    by_cases hlt : j < k
    · obtain ⟨ad', e', hc⟩ := hb.at_ (show j < l.length by omega)
      obtain rfl : ad = ad' := by injection e'
      rw [I.at_eq (by omega)] at hc
      obtain ⟨x, hx⟩ : ∃ x, I.at' l j = x := ⟨_, rfl⟩
      have hx256 : x < 256 := by rw [← hx]; exact I.at_lt l j
      have hm2 : 256 * M + 255 < 18446744073709551616 := by rw [HM.out]; exact I.bv_mul (by omega) (by omega)
      have HN : Hid (256 * M + x = I.bv (l.take (j + 1))) := Lib.hid (by rw [I.bv_step (by omega), hx, HM.out])
      rw [hx] at hc
      clear hx e'
      go_wp2_with fail
      go_round
      case rel => exact ⟨j + 1, 256 * M + x, by omega, by go_num, I.val_u64 (by (try simp only [I.wrap_u64]); omega), by omega, HN⟩
      case measure => simp [intOf]; omega
    · obtain rfl : j = k := by omega
      have HYM : Hid (I.getN l j = M ∧ I.getR l j = l.drop j ∧ I.getE l j = 0) := Lib.hid (by rw [HM.out]; exact HY.out)
      by_cases hcc : c = j
      · have HCut := Lib.hid (hb.cut_end hk hcc)
        go_wp2_with fail
        go_quiet (fail)
        go_wp2_with fail
        go_ret3
        exact get_ok HYM.out HLen.out (HCut.out.drewN _) (I.below_drewN (Below.refl _ _) _)
      · have HCut := Lib.hid (hb.cut_at hk hcc)
        go_wp2_with fail
        go_quiet (fail)
        go_wp2_with fail
        go_ret3
        exact get_ok HYM.out HLen.out (HCut.out.drewN _) (I.below_drewN (Below.refl _ _) _)
set_option maxHeartbeats 400000 in
theorem RGet_any (A : Option Addr) (c : Nat) (l : List UInt8) (b : Int) (w : World) (hb : BytesIn w w.heap.size A c l) :
    Calls Try.prog 16 #[.slice A l.length c, .int .i64 b] w (GetPost l b w) := by
  by_cases hw : 1 ≤ b ∧ b ≤ 8
  · obtain ⟨k, rfl⟩ := Int.eq_ofNat_of_zero_le (show 0 ≤ b by omega)
    by_cases hk : k ≤ l.length
    · cases A with
      | none => obtain ⟨rfl, _⟩ := hb.none_ rfl; simp at hk; omega
      | some ad => exact RGet_ok ad c l k w hb (by omega) (by omega) hk
    · have HO := Lib.hid (I.get_more (l := l) (k := k) (by omega) (by omega) (by omega))
      have hlt : (l.length : Int) < k := by omega
      clear hk
      go_enter Try.func16, Try.ntmps16
      go_wp2_with fail
      go_ret3
      exact get_no HO.out
  · have HO := Lib.hid (I.get_bad (l := l) hw)
    by_cases h1 : b < 1
    · clear hw
      go_enter Try.func16, Try.ntmps16
      go_wp2_with fail
      go_ret3
      exact get_no HO.out
    · have h2 : 8 < b := by omega
      clear hw
      go_enter Try.func16, Try.ntmps16
      go_wp2_with fail
      go_ret3
      exact get_no HO.out
end Go.Proofs.Ythopdpgjfmpgkaa
