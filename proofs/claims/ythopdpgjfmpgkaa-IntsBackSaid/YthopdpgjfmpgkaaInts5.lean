/- Contracts of the reference of ints: Widen, Turn, Field and With. -/
import Derived.Test.YthopdpgjfmpgkaaInts4
namespace Go.Proofs.Ythopdpgjfmpgkaa
open Go.RowKit
namespace I
theorem widV_yes {N : Nat} {b : Int} {sg : Bool} (h : widOk N b sg = true) : widV N b sg = if sg = true ∧ 2 ^ (b.toNat - 1) ≤ N then (N : Int) - ((2 ^ b.toNat : Nat) : Int) else N := by unfold widV; rw [if_pos h]
theorem widOk_nat {N B : Nat} {sg : Bool} (h1 : 1 ≤ B) (h2 : B ≤ 64) : widOk N B sg = decide (N < 2 ^ B ∧ (sg = true ∨ N < 9223372036854775808)) := by
  unfold widOk
  rw [Int.toNat_natCast, decide_eq_decide]
  constructor
  · exact fun ⟨_, _, h⟩ => h
  · exact fun h => ⟨by omega, by omega, h⟩
end I
set_option maxHeartbeats 400000 in
theorem RWiden_bad (N : Nat) (b : Int) (sg : Bool) (hb : ¬ (1 ≤ b ∧ b ≤ 64)) (w : World) :
    Calls Try.prog 28 #[.int .u64 N, .int .i64 b, .bool sg] w fun e w' => e = .returned (.tuple #[.int .i64 (I.widV N b sg), .int .i64 (I.errV (I.widOk N b sg))]) ∧ w = w' := by
  have HO := Lib.hid (I.wid_no (I.wid_bad (N := N) (sg := sg) hb))
  by_cases h1 : b < 1
  · clear hb
    go_enter Try.func28, Try.ntmps28
    go_wp2_with fail
    go_ret2
    exact ⟨I.ret_two HO.out.1.symm HO.out.2.symm, rfl⟩
  · have h2 : 64 < b := by omega
    clear hb
    go_enter Try.func28, Try.ntmps28
    go_wp2_with fail
    go_ret2
    exact ⟨I.ret_two HO.out.1.symm HO.out.2.symm, rfl⟩
set_option maxHeartbeats 800000 in
theorem RWiden_ok (N B : Nat) (sg : Bool) (hN : N < 18446744073709551616) (h1 : 1 ≤ B) (h2 : B ≤ 64) (w : World) :
    Calls Try.prog 28 #[.int .u64 N, .int .i64 B, .bool sg] w fun e w' => e = .returned (.tuple #[.int .i64 (I.widV N B sg), .int .i64 (I.errV (I.widOk N B sg))]) ∧ w = w' := by
  have HT := Lib.hid (show ((B : Int) - 1).toNat = B - 1 by omega)
  have HH := Lib.hid (I.pow_halves h1)
  have HW := Lib.hid (I.widOk_nat (N := N) (sg := sg) h1 h2)
  by_cases hf : N < 2 ^ B
  · have HF := Lib.hid hf
    by_cases hh : N < 2 ^ (B - 1)
    · have h63 : N < 9223372036854775808 := by
        have := Nat.pow_le_pow_right (n := 2) (by decide) (show B - 1 ≤ 63 by omega)
        have e : (2 : Nat) ^ 63 = 9223372036854775808 := by decide
        omega
      have hok : I.widOk N B sg = true := by rw [HW.out]; exact decide_eq_true ⟨hf, Or.inr h63⟩
      have HV : Hid (I.widV N B sg = N) := Lib.hid (by rw [I.widV_yes hok, Int.toNat_natCast, if_neg (fun ⟨_, h⟩ => by omega)])
      have HO := Lib.hid hok
      have HK := Lib.hid hh
      clear hf hok hh
      go_enter Try.func28, Try.ntmps28
      go_wp2_with fail
      refine (below_int _ _ true (by omega) (by omega) (by omega) (by omega) (by rw [Int.toNat_natCast]; exact decide_eq_true (by have := HF.out; omega)) _).mono ?_
      rintro e w' ⟨rfl, rfl⟩
      go_wp2_with fail
      refine (below_int _ _ true (by omega) (by omega) (by omega) (by omega) (by rw [HT.out]; exact decide_eq_true (by have := HK.out; omega)) _).mono ?_
      rintro e w' ⟨rfl, rfl⟩
      go_wp2_with fail
      go_ret2
      exact ⟨I.ret_two HV.out.symm (by rw [HO.out]; rfl), rfl⟩
    · have HK := Lib.hid hh
      cases sg with
      | false =>
        by_cases h63 : N < 9223372036854775808
        · have hok : I.widOk N B false = true := by rw [HW.out]; exact decide_eq_true ⟨hf, Or.inr h63⟩
          have HV : Hid (I.widV N B false = N) := Lib.hid (by rw [I.widV_yes hok, if_neg (fun ⟨h, _⟩ => by cases h)])
          have HO := Lib.hid hok
          have h63' : (N : Int) ≤ 9223372036854775807 := by omega
          clear hf hok hh
          go_enter Try.func28, Try.ntmps28
          go_wp2_with fail
          refine (below_int _ _ true (by omega) (by omega) (by omega) (by omega) (by rw [Int.toNat_natCast]; exact decide_eq_true (by have := HF.out; omega)) _).mono ?_
          rintro e w' ⟨rfl, rfl⟩
          go_wp2_with fail
          refine (below_int _ _ false (by omega) (by omega) (by omega) (by omega) (by rw [HT.out]; exact decide_eq_false (by have := HK.out; omega)) _).mono ?_
          rintro e w' ⟨rfl, rfl⟩
          go_wp2_with fail
          go_ret2
          exact ⟨I.ret_two HV.out.symm (by rw [HO.out]; rfl), rfl⟩
        · have HO := Lib.hid (I.wid_no (N := N) (b := B) (sg := false) (by rw [HW.out]; exact decide_eq_false (fun ⟨_, h⟩ => by rcases h with h | h; cases h; omega)))
          have h63' : ¬ (N : Int) ≤ 9223372036854775807 := by omega
          clear hf hh
          go_enter Try.func28, Try.ntmps28
          go_wp2_with fail
          refine (below_int _ _ true (by omega) (by omega) (by omega) (by omega) (by rw [Int.toNat_natCast]; exact decide_eq_true (by have := HF.out; omega)) _).mono ?_
          rintro e w' ⟨rfl, rfl⟩
          go_wp2_with fail
          refine (below_int _ _ false (by omega) (by omega) (by omega) (by omega) (by rw [HT.out]; exact decide_eq_false (by have := HK.out; omega)) _).mono ?_
          rintro e w' ⟨rfl, rfl⟩
          go_wp2_with fail
          go_ret2
          exact ⟨I.ret_two HO.out.1.symm HO.out.2.symm, rfl⟩
      | true =>
        have hok : I.widOk N B true = true := by rw [HW.out]; exact decide_eq_true ⟨hf, Or.inl rfl⟩
        have HV : Hid (I.widV N B true = (N : Int) - ((2 ^ B : Nat) : Int)) := Lib.hid (by rw [I.widV_yes hok, Int.toNat_natCast, if_pos ⟨rfl, by omega⟩])
        have HO := Lib.hid hok
        have HL := Lib.hid (I.pow_le_64 h2)
        clear hf hok hh
        go_enter Try.func28, Try.ntmps28
        go_wp2_with fail
        refine (below_int _ _ true (by omega) (by omega) (by omega) (by omega) (by rw [Int.toNat_natCast]; exact decide_eq_true (by have := HF.out; omega)) _).mono ?_
        rintro e w' ⟨rfl, rfl⟩
        go_wp2_with fail
        refine (below_int _ _ false (by omega) (by omega) (by omega) (by omega) (by rw [HT.out]; exact decide_eq_false (by have := HK.out; omega)) _).mono ?_
        rintro e w' ⟨rfl, rfl⟩
        go_wp2_with fail
        go_loop [8, 9] (fun a i => ∃ k A : Nat, k ≤ B ∧ i = .int .i64 k ∧ a = .int .u64 A ∧ Hid (A + 1 = 2 ^ k)) (fun _ i => B - (intOf i).toNat)
        case atStart => exact ⟨0, 0, Nat.zero_le _, rfl, rfl, Lib.hid rfl⟩
        case round =>
          obtain ⟨k, A, hk, rfl, rfl, HA⟩ := hrel
          by_cases hlt : k < B
          · have hA := I.all_lt HA.out (by omega)
            go_wp2_with fail
            go_round
            case rel => exact ⟨k + 1, 2 * A + 1, by omega, by go_num, I.val_u64 (by omega), Lib.hid (I.all_step HA.out)⟩
            case measure => simp [intOf]; omega
          · obtain rfl : k = B := by omega
            have hA : A < 18446744073709551616 := by have := HA.out; have := HL.out; omega
            have hA2 : N ≤ A := by have := HA.out; have := HF.out; omega
            have hA3 : A - N < 9223372036854775808 := by have := HA.out; have := HL.out; have := HK.out; have := HH.out; omega
            go_wp2_with fail
            go_ret2
            refine ⟨I.ret_two ?_ (by rw [HO.out]; rfl), rfl⟩
            rw [HV.out]
            have := HA.out
            omega
  · have HO := Lib.hid (I.wid_no (N := N) (b := B) (sg := sg) (by rw [HW.out]; exact decide_eq_false (fun ⟨h, _⟩ => hf h)))
    have HF := Lib.hid hf
    clear hf
    go_enter Try.func28, Try.ntmps28
    go_wp2_with fail
    refine (below_int _ _ false (by omega) (by omega) (by omega) (by omega) (by rw [Int.toNat_natCast]; exact decide_eq_false (by have := HF.out; omega)) _).mono ?_
    rintro e w' ⟨rfl, rfl⟩
    go_wp2_with fail
    go_ret2
    exact ⟨I.ret_two HO.out.1.symm HO.out.2.symm, rfl⟩
theorem RWiden_any (N : Nat) (b : Int) (sg : Bool) (hN : N < 18446744073709551616) (w : World) :
    Calls Try.prog 28 #[.int .u64 N, .int .i64 b, .bool sg] w fun e w' => e = .returned (.tuple #[.int .i64 (I.widV N b sg), .int .i64 (I.errV (I.widOk N b sg))]) ∧ w = w' := by
  by_cases hb : 1 ≤ b ∧ b ≤ 64
  · obtain ⟨B, rfl⟩ := Int.eq_ofNat_of_zero_le (show 0 ≤ b by omega)
    exact RWiden_ok N B sg hN (by omega) (by omega) w
  · exact RWiden_bad N b sg hb w
end Go.Proofs.Ythopdpgjfmpgkaa
