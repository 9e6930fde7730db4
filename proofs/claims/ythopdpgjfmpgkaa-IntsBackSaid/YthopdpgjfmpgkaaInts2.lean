/- Contracts of package ints: Zig, Zag, Widen, Fit, Turn, Field and With. -/
import Derived.Test.YthopdpgjfmpgkaaIntsVals
import Derived.Deep.QuietTactic
import Derived.BigQuiet
import Derived.Below
namespace Go.Proofs.Ythopdpgjfmpgkaa
open Go.RowKit
theorem I.below_drewN {B : Nat} {a w : World} (h : Below B a w) (n : Nat) : Below B a (w.drewN n) := ⟨h.os, h.tape, h.output, h.size, h.block⟩
theorem I.ret_i64 {a b : Int} (h : b = a) : Ending.returned (.int .i64 a) = .returned (.int .i64 b) := by rw [h]
theorem I.ret_two {k : IntKind} {a b c d : Int} (h : a = b) (h' : c = d) : Ending.returned (.tuple #[.int k a, .int .i64 c]) = .returned (.tuple #[.int k b, .int .i64 d]) := by rw [h, h']

set_option maxHeartbeats 400000 in
theorem Zig_any (n : Int) (h1 : -9223372036854775808 ≤ n) (h2 : n ≤ 9223372036854775807) (w : World) :
    Calls Try.prog 21 #[.int .i64 n] w fun e w' => e = .returned (.int .u64 (I.zigN n)) ∧ w = w' := by
  have HZ := Lib.hid (I.zig_prog h1 h2)
  go_enter Try.func21, Try.ntmps21
  go_wp2
  go_ret
  exact ⟨I.ret_u64 HZ.out.symm, rfl⟩
set_option maxHeartbeats 400000 in
theorem Zag_any (n : Nat) (h2 : n < 18446744073709551616) (w : World) :
    Calls Try.prog 23 #[.int .u64 n] w fun e w' => e = .returned (.int .i64 (I.zagN n)) ∧ w = w' := by
  have HZ := Lib.hid (I.zag_prog h2)
  go_enter Try.func23, Try.ntmps23
  go_wp2
  go_ret
  exact ⟨I.ret_i64 HZ.out.symm, rfl⟩

set_option maxHeartbeats 400000 in
theorem Widen_bad (N : Nat) (b : Int) (sg : Bool) (hb : ¬ (1 ≤ b ∧ b ≤ 64)) (w : World) :
    Calls Try.prog 27 #[.int .u64 N, .int .i64 b, .bool sg] w fun e w' => e = .returned (.tuple #[.int .i64 (I.widV N b sg), .int .i64 (I.errV (I.widOk N b sg))]) ∧ w = w' := by
  have HD := Lib.hid (show (decide (1 ≤ b) && decide (b ≤ 64)) = false by simpa using hb)
  have HO := Lib.hid (I.wid_no (I.wid_bad (N := N) (sg := sg) hb))
  clear hb
  go_enter Try.func27, Try.ntmps27
  go_wp2_with fail
  refine (isBits_any _ _).mono ?_
  rintro e w' ⟨rfl, rfl⟩
  rw [HD.out]
  go_wp2_with fail
  go_ret2
  exact ⟨I.ret_two HO.out.1.symm HO.out.2.symm, rfl⟩
set_option maxHeartbeats 400000 in
theorem Widen_ok (N b : Nat) (sg : Bool) (hN : N < 18446744073709551616) (h1 : 1 ≤ b) (h2 : b ≤ 64) (w : World) :
    Calls Try.prog 27 #[.int .u64 N, .int .i64 b, .bool sg] w fun e w' => e = .returned (.tuple #[.int .i64 (I.widV N b sg), .int .i64 (I.errV (I.widOk N b sg))]) ∧ w = w' := by
  have HD := Lib.hid (show (decide (1 ≤ (b : Int)) && decide ((b : Int) ≤ 64)) = true by simp; omega)
  by_cases hf : N < 2 ^ b
  · have HF := Lib.hid (decide_eq_true hf)
    have HW := Lib.hid (I.wid_prog h1 h2 hf)
    have HC := Lib.hid (show (64 : Int) - (b : Int) = ((64 - b : Nat) : Int) by omega)
    cases sg with
    | true =>
      have HO := Lib.hid (show I.widOk N b true = true from by unfold I.widOk; exact decide_eq_true ⟨by omega, by omega, by rw [Int.toNat_natCast]; exact hf, Or.inl rfl⟩)
      have HV := Lib.hid (show I.widV N b true = if 2 ^ (b - 1) ≤ N then (N : Int) - ((2 ^ b : Nat) : Int) else N from by unfold I.widV; rw [HO.out]; simp only [if_true, true_and, Int.toNat_natCast])
      clear hf
      go_enter Try.func27, Try.ntmps27
      go_wp2_with fail
      refine (isBits_any _ _).mono ?_
      rintro e w' ⟨rfl, rfl⟩
      rw [HD.out]
      go_wp2_with fail
      refine (fits_any N b h2 _).mono ?_
      rintro e w' ⟨rfl, rfl⟩
      rw [HF.out]
      go_wp2_with fail
      go_ret2
      exact ⟨I.ret_two (by rw [HV.out, ← HW.out]) (by rw [HO.out]; rfl), rfl⟩
    | false =>
      by_cases hm : 9223372036854775807 < (N : Int)
      · have HO := Lib.hid (I.wid_no (show I.widOk N b false = false from by unfold I.widOk; exact decide_eq_false (fun ⟨_, _, _, h⟩ => by rcases h with h | h; cases h; omega)))
        clear hf
        go_enter Try.func27, Try.ntmps27
        go_wp2_with fail
        refine (isBits_any _ _).mono ?_
        rintro e w' ⟨rfl, rfl⟩
        rw [HD.out]
        go_wp2_with fail
        refine (fits_any N b h2 _).mono ?_
        rintro e w' ⟨rfl, rfl⟩
        rw [HF.out]
        go_wp2_with fail
        go_ret2
        exact ⟨I.ret_two HO.out.1.symm HO.out.2.symm, rfl⟩
      · have HO := Lib.hid (show I.widOk N b false = true from by unfold I.widOk; exact decide_eq_true ⟨by omega, by omega, by rw [Int.toNat_natCast]; exact hf, Or.inr (by omega)⟩)
        have HV := Lib.hid (show I.widV N b false = N from by unfold I.widV; rw [HO.out]; simp only [if_true, Bool.false_eq_true, false_and, if_false])
        clear hf
        go_enter Try.func27, Try.ntmps27
        go_wp2_with fail
        refine (isBits_any _ _).mono ?_
        rintro e w' ⟨rfl, rfl⟩
        rw [HD.out]
        go_wp2_with fail
        refine (fits_any N b h2 _).mono ?_
        rintro e w' ⟨rfl, rfl⟩
        rw [HF.out]
        go_wp2_with fail
        go_ret2
        exact ⟨I.ret_two HV.out.symm (by rw [HO.out]; rfl), rfl⟩
  · have HF := Lib.hid (decide_eq_false hf)
    have HO := Lib.hid (I.wid_no (show I.widOk N b sg = false from by unfold I.widOk; exact decide_eq_false (fun ⟨_, _, h, _⟩ => hf (by rw [Int.toNat_natCast] at h; exact h))))
    clear hf
    go_enter Try.func27, Try.ntmps27
    go_wp2_with fail
    refine (isBits_any _ _).mono ?_
    rintro e w' ⟨rfl, rfl⟩
    rw [HD.out]
    go_wp2_with fail
    refine (fits_any N b h2 _).mono ?_
    rintro e w' ⟨rfl, rfl⟩
    rw [HF.out]
    go_wp2_with fail
    go_ret2
    exact ⟨I.ret_two HO.out.1.symm HO.out.2.symm, rfl⟩
theorem Widen_any (N : Nat) (b : Int) (sg : Bool) (hN : N < 18446744073709551616) (w : World) :
    Calls Try.prog 27 #[.int .u64 N, .int .i64 b, .bool sg] w fun e w' => e = .returned (.tuple #[.int .i64 (I.widV N b sg), .int .i64 (I.errV (I.widOk N b sg))]) ∧ w = w' := by
  by_cases hb : 1 ≤ b ∧ b ≤ 64
  · obtain ⟨B, rfl⟩ := Int.eq_ofNat_of_zero_le (show 0 ≤ b by omega)
    exact Widen_ok N B sg hN (by omega) (by omega) w
  · exact Widen_bad N b sg hb w
end Go.Proofs.Ythopdpgjfmpgkaa
