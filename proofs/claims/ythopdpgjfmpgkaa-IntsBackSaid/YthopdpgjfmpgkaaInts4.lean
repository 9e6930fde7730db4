/- Contracts of the reference of ints: Zig, Zag, Fit and Widen. -/
import Derived.Test.YthopdpgjfmpgkaaInts3
namespace Go.Proofs.Ythopdpgjfmpgkaa
open Go.RowKit
theorem below_int (x b : Int) (r : Bool) (h0 : 0 ≤ x) (h1 : x < 18446744073709551616) (hb0 : 0 ≤ b) (hb : b ≤ 64) (hr : decide (x < ((2 ^ b.toNat : Nat) : Int)) = r) (w : World) :
    Calls Try.prog 45 #[.int .u64 x, .int .i64 b] w fun e w' => e = .returned (.bool r) ∧ w = w' := by
  obtain ⟨N, rfl⟩ := Int.eq_ofNat_of_zero_le h0
  obtain ⟨B, rfl⟩ := Int.eq_ofNat_of_zero_le hb0
  refine (below_any N B (by omega) (by omega) w).mono ?_
  rintro e w' ⟨rfl, rfl⟩
  refine ⟨?_, rfl⟩
  rw [← hr, Int.toNat_natCast]
  congr 2
  rw [Bool.eq_iff_iff, decide_eq_true_eq, decide_eq_true_eq]
  omega
set_option maxHeartbeats 400000 in
theorem RZig_any (n : Int) (h1 : -9223372036854775808 ≤ n) (h2 : n ≤ 9223372036854775807) (w : World) :
    Calls Try.prog 22 #[.int .i64 n] w fun e w' => e = .returned (.int .u64 (I.zigN n)) ∧ w = w' := by
  by_cases h : n < 0
  all_goals
    have HZ := Lib.hid (show I.zigN n = if n < 0 then -2 * n - 1 else 2 * n from rfl)
    go_enter Try.func22, Try.ntmps22
    go_wp2
    go_ret
    refine ⟨I.ret_u64 ?_, rfl⟩
    rw [HZ.out]
    (first | rw [if_pos (by omega)] | rw [if_neg (by omega)]) <;> omega
set_option maxHeartbeats 400000 in
theorem RZag_any (n : Nat) (h2 : n < 18446744073709551616) (w : World) :
    Calls Try.prog 24 #[.int .u64 n] w fun e w' => e = .returned (.int .i64 (I.zagN n)) ∧ w = w' := by
  have HZ := Lib.hid (show I.zagN n = if n % 2 = 1 then -((n / 2 : Nat) : Int) - 1 else ((n / 2 : Nat) : Int) from rfl)
  by_cases h : n % 2 = 1
  · have hb : (((n : Int) % 2) == 1) = true := by rw [beq_iff_eq]; omega
    have H := Lib.hid h
    clear h
    go_enter Try.func24, Try.ntmps24
    go_wp2
    go_ret
    refine ⟨I.ret_i64 ?_, rfl⟩
    rw [HZ.out, if_pos H.out]
    omega
  · have hb : (((n : Int) % 2) == 1) = false := by rw [beq_eq_false_iff_ne]; omega
    have H := Lib.hid h
    clear h
    go_enter Try.func24, Try.ntmps24
    go_wp2
    go_ret
    refine ⟨I.ret_i64 ?_, rfl⟩
    rw [HZ.out, if_neg H.out]
    omega
namespace I
theorem all_step {A k : Nat} (h : A + 1 = 2 ^ k) : 2 * A + 1 + 1 = 2 ^ (k + 1) := by rw [Nat.pow_succ]; omega
theorem all_lt {A k : Nat} (h : A + 1 = 2 ^ k) (hk : k < 64) : 2 * A + 1 < 18446744073709551616 := by
  have h1 := pow_le_64 (show k + 1 ≤ 64 by omega)
  have := all_step h
  omega
theorem fitV_yes {n b : Int} {sg : Bool} (h : fitOk n b sg = true) : fitV n b sg = if n < 0 then n + ((2 ^ b.toNat : Nat) : Int) else n := by unfold fitV; rw [if_pos h]
end I
set_option maxHeartbeats 400000 in
theorem RFit_bad (n b : Int) (sg : Bool) (hb : ¬ (1 ≤ b ∧ b ≤ 64)) (w : World) :
    Calls Try.prog 26 #[.int .i64 n, .int .i64 b, .bool sg] w fun e w' => e = .returned (.tuple #[.int .u64 (I.fitV n b sg), .int .i64 (I.errV (I.fitOk n b sg))]) ∧ w = w' := by
  have HO := Lib.hid (I.fit_no (I.fit_bad (n := n) (sg := sg) hb))
  by_cases h1 : b < 1
  · clear hb
    go_enter Try.func26, Try.ntmps26
    go_wp2_with fail
    go_ret2
    exact ⟨I.ret_two HO.out.1.symm HO.out.2.symm, rfl⟩
  · have h2 : 64 < b := by omega
    clear hb
    go_enter Try.func26, Try.ntmps26
    go_wp2_with fail
    go_ret2
    exact ⟨I.ret_two HO.out.1.symm HO.out.2.symm, rfl⟩
set_option maxHeartbeats 400000 in
theorem RFit_uns (n : Int) (B : Nat) (hn1 : -9223372036854775808 ≤ n) (hn2 : n ≤ 9223372036854775807) (h1 : 1 ≤ B) (h2 : B ≤ 64) (w : World) :
    Calls Try.prog 26 #[.int .i64 n, .int .i64 B, .bool false] w fun e w' => e = .returned (.tuple #[.int .u64 (I.fitV n B false), .int .i64 (I.errV (I.fitOk n B false))]) ∧ w = w' := by
  by_cases hn : n < 0
  · have HO := Lib.hid (I.fit_no (n := n) (b := B) (sg := false) (by unfold I.fitOk; exact decide_eq_false (fun ⟨_, _, h⟩ => by simp only [Bool.false_eq_true, if_false] at h; omega)))
    go_enter Try.func26, Try.ntmps26
    go_wp2_with fail
    go_ret2
    exact ⟨I.ret_two HO.out.1.symm HO.out.2.symm, rfl⟩
  · have hn0 : 0 ≤ n := by omega
    by_cases hf : n < ((2 ^ B : Nat) : Int)
    · have hok : I.fitOk n B false = true := by unfold I.fitOk; exact decide_eq_true ⟨by omega, by omega, by simp only [Bool.false_eq_true, if_false, Int.toNat_natCast]; omega⟩
      have HO := Lib.hid hok
      have HV := Lib.hid (I.fitV_yes hok)
      have HF := Lib.hid hf
      clear hok hf
      go_enter Try.func26, Try.ntmps26
      go_wp2_with fail
      refine (below_int _ _ true (by omega) (by omega) (by omega) (by omega) (by rw [Int.toNat_natCast]; exact decide_eq_true HF.out) _).mono ?_
      rintro e w' ⟨rfl, rfl⟩
      go_wp2_with fail
      go_ret2
      exact ⟨I.ret_two (by rw [HV.out, if_neg (by omega)]) (by rw [HO.out]; rfl), rfl⟩
    · have HO := Lib.hid (I.fit_no (n := n) (b := B) (sg := false) (by unfold I.fitOk; exact decide_eq_false (fun ⟨_, _, h⟩ => by simp only [Bool.false_eq_true, if_false, Int.toNat_natCast] at h; omega)))
      have HF := Lib.hid hf
      clear hf
      go_enter Try.func26, Try.ntmps26
      go_wp2_with fail
      refine (below_int _ _ false (by omega) (by omega) (by omega) (by omega) (by rw [Int.toNat_natCast]; exact decide_eq_false (by have := HF.out; omega)) _).mono ?_
      rintro e w' ⟨rfl, rfl⟩
      go_wp2_with fail
      go_ret2
      exact ⟨I.ret_two HO.out.1.symm HO.out.2.symm, rfl⟩
set_option maxHeartbeats 400000 in
theorem RFit_pos (n : Int) (B : Nat) (hn0 : 0 ≤ n) (hn2 : n ≤ 9223372036854775807) (h1 : 1 ≤ B) (h2 : B ≤ 64) (w : World) :
    Calls Try.prog 26 #[.int .i64 n, .int .i64 B, .bool true] w fun e w' => e = .returned (.tuple #[.int .u64 (I.fitV n B true), .int .i64 (I.errV (I.fitOk n B true))]) ∧ w = w' := by
  have hn : ¬ n < 0 := by omega
  have HT := Lib.hid (show ((B : Int) - 1).toNat = B - 1 by omega)
  by_cases hf : n < ((2 ^ (B - 1) : Nat) : Int)
  · have hok : I.fitOk n B true = true := by unfold I.fitOk; exact decide_eq_true ⟨by omega, by omega, by simp only [if_true, Int.toNat_natCast]; omega⟩
    have HO := Lib.hid hok
    have HV := Lib.hid (I.fitV_yes hok)
    have HF := Lib.hid hf
    clear hok hf
    go_enter Try.func26, Try.ntmps26
    go_wp2_with fail
    refine (below_int _ _ true (by omega) (by omega) (by omega) (by omega) (by rw [HT.out]; exact decide_eq_true HF.out) _).mono ?_
    rintro e w' ⟨rfl, rfl⟩
    go_wp2_with fail
    go_ret2
    exact ⟨I.ret_two (by rw [HV.out, if_neg (by omega)]) (by rw [HO.out]; rfl), rfl⟩
  · have HO := Lib.hid (I.fit_no (n := n) (b := B) (sg := true) (by unfold I.fitOk; exact decide_eq_false (fun ⟨_, _, h⟩ => by simp only [if_true, Int.toNat_natCast] at h; omega)))
    have HF := Lib.hid hf
    clear hf
    go_enter Try.func26, Try.ntmps26
    go_wp2_with fail
    refine (below_int _ _ false (by omega) (by omega) (by omega) (by omega) (by rw [HT.out]; exact decide_eq_false (by have := HF.out; omega)) _).mono ?_
    rintro e w' ⟨rfl, rfl⟩
    go_wp2_with fail
    go_ret2
    exact ⟨I.ret_two HO.out.1.symm HO.out.2.symm, rfl⟩
set_option maxHeartbeats 400000 in
theorem RFit_neg (n : Int) (B : Nat) (hn : n < 0) (hn1 : -9223372036854775808 ≤ n) (h1 : 1 ≤ B) (h2 : B ≤ 64) (w : World) :
    Calls Try.prog 26 #[.int .i64 n, .int .i64 B, .bool true] w fun e w' => e = .returned (.tuple #[.int .u64 (I.fitV n B true), .int .i64 (I.errV (I.fitOk n B true))]) ∧ w = w' := by
  have HT := Lib.hid (show ((B : Int) - 1).toNat = B - 1 by omega)
  by_cases hf : -((2 ^ (B - 1) : Nat) : Int) ≤ n
  · have hok : I.fitOk n B true = true := by unfold I.fitOk; exact decide_eq_true ⟨by omega, by omega, by simp only [if_true, Int.toNat_natCast]; omega⟩
    have HO := Lib.hid hok
    have HV := Lib.hid (I.fitV_yes hok)
    have HF := Lib.hid hf
    have HH := Lib.hid (I.pow_halves h1)
    have hl := I.pow_le_64 h2
    have HL := Lib.hid hl
    clear hok hf hl
    go_enter Try.func26, Try.ntmps26
    go_wp2_with fail
    refine (below_int _ _ true (by omega) (by omega) (by omega) (by omega) (by rw [HT.out]; exact decide_eq_true (by have := HF.out; omega)) _).mono ?_
    rintro e w' ⟨rfl, rfl⟩
    go_wp2_with fail
    go_loop [8, 9] (fun a i => ∃ k A : Nat, k ≤ B ∧ i = .int .i64 k ∧ a = .int .u64 A ∧ Hid (A + 1 = 2 ^ k)) (fun _ i => B - (intOf i).toNat)
    case atStart => exact ⟨0, 0, Nat.zero_le _, rfl, rfl, Lib.hid rfl⟩
    case round =>
      obtain ⟨k, A, hk, rfl, rfl, HA⟩ := hrel
      by_cases hlt : k < B
      · have hA := I.all_lt HA.out (by omega)
        go_wp2_with fail
        go_round
        case rel => exact ⟨k + 1, 2 * A + 1, by omega, by go_num, I.val_u64 (by omega), Lib.hid (I.all_step HA.out)⟩
        case measure => simp [intOf]; omega
      · obtain rfl : k = B := by omega
        have hA : A < 18446744073709551616 := by have := HA.out; have := HL.out; omega
        have hA2 : -n - 1 ≤ (A : Int) := by have := HA.out; have := HF.out; have := HH.out; omega
        go_wp2_with fail
        go_ret2
        refine ⟨I.ret_two ?_ (by rw [HO.out]; rfl), rfl⟩
        rw [HV.out, if_pos hn, Int.toNat_natCast]
        have := HA.out
        omega
  · have HO := Lib.hid (I.fit_no (n := n) (b := B) (sg := true) (by unfold I.fitOk; exact decide_eq_false (fun ⟨_, _, h⟩ => by simp only [if_true, Int.toNat_natCast] at h; omega)))
    have HF := Lib.hid hf
    clear hf
    go_enter Try.func26, Try.ntmps26
    go_wp2_with fail
    refine (below_int _ _ false (by omega) (by omega) (by omega) (by omega) (by rw [HT.out]; exact decide_eq_false (by have := HF.out; omega)) _).mono ?_
    rintro e w' ⟨rfl, rfl⟩
    go_wp2_with fail
    go_ret2
    exact ⟨I.ret_two HO.out.1.symm HO.out.2.symm, rfl⟩
theorem RFit_any (n b : Int) (sg : Bool) (hn1 : -9223372036854775808 ≤ n) (hn2 : n ≤ 9223372036854775807) (w : World) :
    Calls Try.prog 26 #[.int .i64 n, .int .i64 b, .bool sg] w fun e w' => e = .returned (.tuple #[.int .u64 (I.fitV n b sg), .int .i64 (I.errV (I.fitOk n b sg))]) ∧ w = w' := by
  by_cases hb : 1 ≤ b ∧ b ≤ 64
  · obtain ⟨B, rfl⟩ := Int.eq_ofNat_of_zero_le (show 0 ≤ b by omega)
    cases sg with
    | false => exact RFit_uns n B hn1 hn2 (by omega) (by omega) w
    | true =>
      by_cases hn : n < 0
      · exact RFit_neg n B hn hn1 (by omega) (by omega) w
      · exact RFit_pos n B (by omega) hn2 (by omega) (by omega) w
  · exact RFit_bad n b sg hb w
end Go.Proofs.Ythopdpgjfmpgkaa
