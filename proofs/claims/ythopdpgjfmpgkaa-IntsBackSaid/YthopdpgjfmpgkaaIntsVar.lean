/- Contracts of PutVar of package ints and of its reference. -/
import Derived.Test.YthopdpgjfmpgkaaIntsRPut
namespace Go.Proofs.Ythopdpgjfmpgkaa
open Go.RowKit
namespace I
/-- The bytes of variable length. -/
def vb (N : Nat) : List UInt8 := if N < 128 then [UInt8.ofNat N] else UInt8.ofNat (128 + N % 128) :: vb (N / 128)
termination_by N
decreasing_by omega
theorem vb_small {N : Nat} (h : N < 128) : vb N = [UInt8.ofNat N] := by rw [vb, if_pos h]
theorem vb_big {N : Nat} (h : ¬ N < 128) : vb N = UInt8.ofNat (128 + N % 128) :: vb (N / 128) := by rw [vb, if_neg h]
theorem vb_len : ∀ (k N : Nat), N < 128 ^ k → 1 ≤ k → (vb N).length ≤ k
  | 0, _, _, h => by omega
  | k + 1, N, h, _ => by
    by_cases hs : N < 128
    · rw [vb_small hs]; simp
    · rw [vb_big hs, List.length_cons]
      rw [Nat.pow_succ] at h
      have hk : 1 ≤ k := by
        rcases Nat.eq_zero_or_pos k with rfl | hk
        · simp at h; omega
        · exact hk
      have := vb_len k (N / 128) (by omega) hk
      omega
theorem vb_len10 {N : Nat} (h : N < 18446744073709551616) : (vb N).length ≤ 10 := vb_len 10 N (by have : (128 : Nat) ^ 10 = 1180591620717411303424 := by decide
                                                                                                  omega) (by decide)
set_option maxRecDepth 100000 in
theorem or128 : ∀ x : Nat, x < 256 → x ||| 128 = 128 + x % 128 := by decide
theorem or128_form (M : Nat) : bits .or .u8 ((M : Int) % 256) 128 = ((128 + M % 128 : Nat) : Int) := by
  have e : (M : Int) % 256 = ((M % 256 : Nat) : Int) := by omega
  have := u8_or_nat (M % 256) 128 (by omega) (by decide)
  rw [e]
  refine this.trans ?_
  rw [or128 _ (by omega)]
  omega
theorem var_next {xs l : List UInt8} {M N : Nat} (h : xs ++ vb M = l ++ vb N) (hb : ¬ M < 128) {z : Int} (hz : z = ((128 + M % 128 : Nat) : Int)) : xs ++ [UInt8.ofNat z.toNat] ++ vb (M / 128) = l ++ vb N := by
  rw [← h, vb_big hb, hz, Int.toNat_natCast]; simp
theorem var_end {xs l : List UInt8} {M N : Nat} (h : xs ++ vb M = l ++ vb N) (hb : M < 128) {z : Int} (hz : z = (M : Int)) : xs ++ [UInt8.ofNat z.toNat] = l ++ vb N := by
  rw [← h, vb_small hb, hz, Int.toNat_natCast]
theorem var_len {xs l : List UInt8} {M N : Nat} (h : xs ++ vb M = l ++ vb N) (hN : N < 18446744073709551616) : xs.length ≤ l.length + 10 := by
  have := congrArg List.length h
  simp only [List.length_append] at this
  have := vb_len10 hN
  omega
end I
set_option maxRecDepth 100000 in
set_option maxHeartbeats 1000000 in
theorem PutVar_any (A : Option Addr) (c : Nat) (l : List UInt8) (N : Nat) (w : World) (hb : BytesIn w w.heap.size A c l) (hl : l.length ≤ 100000) (hN : N < 18446744073709551616) :
    Calls Try.prog 19 #[.slice A l.length c, .int .u64 N] w fun e w' => ∃ v, e = .returned v ∧ w'.ownsRow w.heap.size 5 1 v (l ++ I.vb N).length ((l ++ I.vb N).map byteV) ∧ Below w.heap.size w w' := by
  go_enter Try.func19, Try.ntmps19
  go_wp2_with fail
  refine (withRoom_any A c l 10 _ hb hl (by omega)).mono ?_
  rintro e w1 ⟨v1, rfl, hown1, hb1⟩
  go_wp2_with fail
  go_loopw [1, 5] (fun n v wr => ∃ (M : Nat) (xs : List UInt8), n = .int .u64 M ∧ M < 18446744073709551616 ∧ Hid (xs ++ I.vb M = l ++ I.vb N) ∧ wr.ownsRow w.heap.size 5 1 v xs.length (xs.map byteV) ∧ Below w.heap.size w wr) (fun n _ _ => (intOf n).toNat)
  case atStart => exact ⟨N, l, rfl, hN, Lib.hid rfl, hown1, hb1⟩
  case round =>
    obtain ⟨M, xs, rfl, hM, HX, hown, hbel⟩ := hrel
    have hlen := I.var_len HX.out hN
    by_cases hs : M < 128
    · have HE := Lib.hid (fun (z : Int) (hz : z = (M : Int)) => I.var_end HX.out hs hz)
      go_wp2_with (at_builtin; refine push_byte w _ _ rfl _ _ rfl w.heap.size _ _ rfl rfl hown (Nat.le_refl _) hbel (by omega) (by omega) (by omega) ?_; intro v2 w2 hown2 hbel2)
      go_ret
      exact ⟨v2, rfl, by rw [← HE.out _ rfl]; exact hown2, hbel2⟩
    · have hz := I.or128_form M
      have HNx := Lib.hid (fun (z : Int) (hz : z = ((128 + M % 128 : Nat) : Int)) => I.var_next HX.out hs hz)
      go_wp2_with (at_builtin; refine push_byte w _ _ rfl _ _ rfl w.heap.size _ _ rfl rfl hown (Nat.le_refl _) hbel (by omega) (by omega) (by omega) ?_; intro v2 w2 hown2 hbel2)
      go_roundw
      case rel => exact ⟨M / 128, _, I.val_u64 (by omega), by omega, Lib.hid (HNx.out _ (by omega)), hown2, hbel2⟩
      case measure => simp [intOf]; omega
set_option maxRecDepth 100000 in
set_option maxHeartbeats 1000000 in
theorem RPutVar_any (A : Option Addr) (c : Nat) (l : List UInt8) (N : Nat) (w : World) (hb : BytesIn w w.heap.size A c l) (hl : l.length ≤ 100000) (hN : N < 18446744073709551616) :
    Calls Try.prog 20 #[.slice A l.length c, .int .u64 N] w fun e w' => ∃ v, e = .returned v ∧ w'.ownsRow w.heap.size 5 1 v (l ++ I.vb N).length ((l ++ I.vb N).map byteV) ∧ Below w.heap.size w w' := by
  have hown0 : (w.alloc (.cells #[] 5)).ownsRow w.heap.size 5 1 (.slice (some ⟨w.heap.size, 0, none⟩) 0 0) ([] : List UInt8).length (([] : List UInt8).map byteV) := World.ownsRow_made w #[] 0 (Nat.le_refl _) (by unfold maxLen; omega) (by simp)
  have hbel0 : Below w.heap.size w (w.alloc (.cells #[] 5)) := (Below.refl _ _).alloc (Nat.le_refl _) _
  have hin0 := hb.below hbel0
  go_enter Try.func20, Try.ntmps20
  go_wp2_with (at_builtin; refine push_bytes w _ rfl (.tmp 6) (.tmp 7) rfl w.heap.size _ [] rfl hown0 w.heap.size A c _ l rfl rfl hin0 (Nat.le_refl _) hbel0 (by simp) (by omega) ?_; intro v1 w1 hown1 hb1 _; simp only [List.nil_append] at hown1)
  go_loopw [1, 5] (fun n v wr => ∃ (M : Nat) (xs : List UInt8), n = .int .u64 M ∧ M < 18446744073709551616 ∧ Hid (xs ++ I.vb M = l ++ I.vb N) ∧ wr.ownsRow w.heap.size 5 1 v xs.length (xs.map byteV) ∧ Below w.heap.size w wr) (fun n _ _ => (intOf n).toNat)
  case atStart => exact ⟨N, l, rfl, hN, Lib.hid rfl, hown1, hb1⟩
  case round =>
    obtain ⟨M, xs, rfl, hM, HX, hown, hbel⟩ := hrel
    have hlen := I.var_len HX.out hN
    by_cases hs : M < 128
    · have HE := Lib.hid (fun (z : Int) (hz : z = (M : Int)) => I.var_end HX.out hs hz)
      go_wp2_with (at_builtin; refine push_byte w _ _ rfl _ _ rfl w.heap.size _ _ rfl rfl hown (Nat.le_refl _) hbel (by omega) (by omega) (by omega) ?_; intro v2 w2 hown2 hbel2)
      go_ret
      exact ⟨v2, rfl, by rw [← HE.out _ rfl]; exact hown2, hbel2⟩
    · have HNx := Lib.hid (fun (z : Int) (hz : z = ((128 + M % 128 : Nat) : Int)) => I.var_next HX.out hs hz)
      go_wp2_with (at_builtin; refine push_byte w _ _ rfl _ _ rfl w.heap.size _ _ rfl rfl hown (Nat.le_refl _) hbel (by omega) (by omega) (by omega) ?_; intro v2 w2 hown2 hbel2)
      go_roundw
      case rel => exact ⟨M / 128, _, I.val_u64 (by omega), by omega, Lib.hid (HNx.out _ (by omega)), hown2, hbel2⟩
      case measure => simp [intOf]; omega
end Go.Proofs.Ythopdpgjfmpgkaa
