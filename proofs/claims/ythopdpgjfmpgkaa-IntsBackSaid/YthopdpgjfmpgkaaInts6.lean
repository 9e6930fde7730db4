/- Contracts of the reference of ints: Turn, Field and With. -/
import Derived.Test.YthopdpgjfmpgkaaInts5
namespace Go.Proofs.Ythopdpgjfmpgkaa
open Go.RowKit
namespace I
theorem bit_int {N i b : Nat} (h : N / 2 ^ i % 2 = b) : ((N : Int) / 2 ^ i % 2 == 1) = decide (b = 1) := by
  have e : (N : Int) / 2 ^ i % 2 = ((N / 2 ^ i % 2 : Nat) : Int) := by rw [cast_pow, ← Int.natCast_ediv]; omega
  rw [e, h, Bool.eq_iff_iff, beq_iff_eq, decide_eq_true_eq]
  omega
theorem bit_val (N i : Nat) : (N : Int) / 2 ^ i % 2 = ((N / 2 ^ i % 2 : Nat) : Int) := by rw [cast_pow, ← Int.natCast_ediv]; omega
theorem turn_more {N B K i A : Nat} (hK : K < B) (hi : i < B) (h : A = turnAt N B K i) (hb : N / 2 ^ i % 2 = 1) : A + 2 ^ ((i + K) % B) = turnAt N B K (i + 1) := by
  rw [turnAt_step hK hi, hb, Nat.one_mul, h]
theorem turn_same {N B K i A : Nat} (hK : K < B) (hi : i < B) (h : A = turnAt N B K i) (hb : N / 2 ^ i % 2 = 0) : A = turnAt N B K (i + 1) := by
  rw [turnAt_step hK hi, hb, Nat.zero_mul, h, Nat.add_zero]
theorem div_pow_nonneg (N i : Nat) : 0 ≤ (N : Int) / 2 ^ i := Int.ediv_nonneg (Int.natCast_nonneg _) (Int.le_of_lt (Int.pow_pos (by decide)))
theorem turn_form {A j K B : Nat} (hB : B ≤ 64) (hm : (j + K) % B < B) (h : A + 2 ^ ((j + K) % B) < 18446744073709551616) :
    IntKind.u64.wrap ((A : Int) + IntKind.u64.wrap (2 ^ min (IntKind.u64.wrap (((j : Int) + K) % B)).toNat 64)) = ((A + 2 ^ ((j + K) % B) : Nat) : Int) := by
  have e : ((j : Int) + K) % B = (((j + K) % B : Nat) : Int) := by rw [← Int.natCast_add, ← Int.natCast_emod]
  rw [e]
  generalize (j + K) % B = r at *
  rw [wrap_u64, wrap_u64, wrap_u64]
  have e2 : min ((r : Int) % 18446744073709551616).toNat 64 = r := by omega
  rw [e2, cast_pow]
  have hp := pow_pos r
  have e3 : ((2 ^ r : Nat) : Int) % 18446744073709551616 = ((2 ^ r : Nat) : Int) := Int.emod_eq_of_lt (by omega) (by omega)
  rw [e3]
  omega
theorem tmod_up {k : Int} {B : Nat} : (k.tmod B + B) % B = k % B := by
  rw [Int.add_emod_right, Int.tmod_eq_emod, Int.natAbs_natCast]
  split
  · simp
  · rw [Int.sub_emod_right, Int.emod_emod_of_dvd _ (Int.dvd_refl _)]
end I
set_option maxHeartbeats 800000 in
theorem RTurn_ok (N B : Nat) (k : Int) (h1 : 1 ≤ B) (h2 : B ≤ 64) (hN : N < 2 ^ B) (w : World) :
    Calls Try.prog 30 #[.int .u64 N, .int .i64 B, .int .i64 k] w fun e w' => e = .returned (.tuple #[.int .u64 (I.trnV N B k), .int .i64 (I.errV (I.trnOk N B))]) ∧ w = w' := by
  have hok : I.trnOk N B = true := by unfold I.trnOk; exact decide_eq_true ⟨by omega, by omega, by rw [Int.toNat_natCast]; exact hN⟩
  have HO := Lib.hid hok
  have HV := Lib.hid (I.trnV_nat N B k hok)
  have HF := Lib.hid hN
  have hl := I.pow_le_64 h2
  have hN64 : N < 18446744073709551616 := by omega
  have HL := Lib.hid hl
  have hlo := I.tmod_lo (k := k) h1
  have hlt := Int.emod_lt_of_pos k (show (0 : Int) < B by omega)
  have hge := Int.emod_nonneg k (show (B : Int) ≠ 0 by omega)
  obtain ⟨K, HK⟩ : ∃ K : Nat, Hid (K = (k % B).toNat) := ⟨_, Lib.hid rfl⟩
  have hKB : K < B := by rw [HK.out]; omega
  have hKk : ((K : Nat) : Int) = k % B := by rw [HK.out]; omega
  have HH := Lib.hid ((I.tmod_up (k := k) (B := B)).trans hKk.symm)
  clear hok hN hlt hge hKk hl
  go_enter Try.func30, Try.ntmps30
  go_wp2_with fail
  refine (below_int _ _ true (by omega) (by omega) (by omega) (by omega) (by rw [Int.toNat_natCast]; exact decide_eq_true (by have := HF.out; omega)) _).mono ?_
  rintro e w' ⟨rfl, rfl⟩
  go_wp2_with fail
  rw [HH.out]
  go_loop [8, 9] (fun a i => ∃ j A : Nat, j ≤ B ∧ i = .int .i64 j ∧ a = .int .u64 A ∧ A < 18446744073709551616 ∧ Hid (A = I.turnAt N B K j)) (fun _ i => B - (intOf i).toNat)
  case atStart => exact ⟨0, 0, Nat.zero_le _, rfl, rfl, by omega, Lib.hid (I.turnAt_zero N B K).symm⟩
  case round =>
    obtain ⟨j, A, hj, rfl, rfl, hA, HA⟩ := hrel
    have hnn := I.div_pow_nonneg N j
    by_cases hlt : j < B
    · by_cases hb : N / 2 ^ j % 2 = 1
      · have HB := I.bit_int hb
        simp only [decide_true] at HB
        have hm : (j + K) % B < B := Nat.mod_lt _ (by omega)
        have HP := Lib.hid (I.turn_more hKB hlt HA.out hb)
        have hnext : A + 2 ^ ((j + K) % B) < 18446744073709551616 := by
          rw [HP.out]; have := I.turnAt_lt (N := N) (i := j + 1) hKB (by omega); have := HL.out; omega
        have HE := Lib.hid (I.turn_form h2 hm hnext)
        have HN := Lib.hid hnext
        clear hb hm hnext
        go_wp2_with fail
        go_round
        case rel => exact ⟨j + 1, A + 2 ^ ((j + K) % B), by omega, by go_num, I.val_u64 HE.out, HN.out, HP⟩
        case measure => simp [intOf]; omega
      · have hb0 : N / 2 ^ j % 2 = 0 := by omega
        have HB : ((N : Int) / 2 ^ j % 2 == 1) = false := I.bit_int hb0
        have HP := Lib.hid (I.turn_same hKB hlt HA.out hb0)
        clear hb hb0
        go_wp2_with fail
        go_round
        case rel => exact ⟨j + 1, A, by omega, by go_num, rfl, hA, HP⟩
        case measure => simp [intOf]; omega
    · obtain rfl : j = B := by omega
      go_wp2_with fail
      go_ret2
      refine ⟨I.ret_two ?_ (by rw [HO.out]; rfl), rfl⟩
      rw [HV.out, HA.out, I.turnAt_end HF.out, ← HK.out]

set_option maxHeartbeats 400000 in
theorem RTurn_any (N : Nat) (b k : Int) (hN : N < 18446744073709551616) (w : World) :
    Calls Try.prog 30 #[.int .u64 N, .int .i64 b, .int .i64 k] w fun e w' => e = .returned (.tuple #[.int .u64 (I.trnV N b k), .int .i64 (I.errV (I.trnOk N b))]) ∧ w = w' := by
  by_cases hb : 1 ≤ b ∧ b ≤ 64
  · obtain ⟨B, rfl⟩ := Int.eq_ofNat_of_zero_le (show 0 ≤ b by omega)
    have hB : B ≤ 64 := by omega
    by_cases hf : N < 2 ^ B
    · exact RTurn_ok N B k (by omega) hB hf w
    · have HF := Lib.hid hf
      have HO := Lib.hid (I.trn_no (N := N) (b := B) (k := k) (by unfold I.trnOk; exact decide_eq_false (fun ⟨_, _, h⟩ => hf (by rw [Int.toNat_natCast] at h; exact h))))
      clear hf
      go_enter Try.func30, Try.ntmps30
      go_wp2_with fail
      refine (below_int _ _ false (by omega) (by omega) (by omega) (by omega) (by rw [Int.toNat_natCast]; exact decide_eq_false (by have := HF.out; omega)) _).mono ?_
      rintro e w' ⟨rfl, rfl⟩
      go_wp2_with fail
      go_ret2
      exact ⟨I.ret_two HO.out.1.symm HO.out.2.symm, rfl⟩
  · have HO := Lib.hid (I.trn_no (N := N) (b := b) (k := k) (by unfold I.trnOk; exact decide_eq_false (fun ⟨h1, h2, _⟩ => hb ⟨h1, h2⟩)))
    by_cases h1 : b < 1
    · clear hb
      go_enter Try.func30, Try.ntmps30
      go_wp2_with fail
      go_ret2
      exact ⟨I.ret_two HO.out.1.symm HO.out.2.symm, rfl⟩
    · have h2 : 64 < b := by omega
      clear hb
      go_enter Try.func30, Try.ntmps30
      go_wp2_with fail
      go_ret2
      exact ⟨I.ret_two HO.out.1.symm HO.out.2.symm, rfl⟩

namespace I
theorem fld_no {N : Nat} {a m : Int} (h : fldOk a m = false) : fldV N a m = 0 ∧ errV (fldOk a m) = 7 := by
  unfold fldV; rw [h]; exact ⟨rfl, rfl⟩
theorem field_step {N A M i X : Nat} (hi : i < M) (h : X = fieldAt N A M (i + 1)) : 2 * X + N / 2 ^ (A + i) % 2 = fieldAt N A M i := by
  rw [fieldAt_step hi, h]
theorem fieldAt_lt {N A M i : Nat} (hM : M ≤ 64) : fieldAt N A M i < 18446744073709551616 :=
  Nat.lt_of_lt_of_le (field_lt _ _ _) (pow_le_64 (by omega))
end I
set_option maxHeartbeats 800000 in
theorem RField_ok (N A M : Nat) (_hN : N < 18446744073709551616) (hA : A < 64) (hM : 1 ≤ M) (hAM : A + M ≤ 64) (w : World) :
    Calls Try.prog 32 #[.int .u64 N, .int .i64 A, .int .i64 M] w fun e w' => e = .returned (.tuple #[.int .u64 (I.fldV N A M), .int .i64 (I.errV (I.fldOk A M))]) ∧ w = w' := by
  have hok : I.fldOk A M = true := by unfold I.fldOk; exact decide_eq_true (by omega)
  have HO := Lib.hid hok
  have HV := Lib.hid (I.fldV_nat N A M hok)
  have hc : ¬ (64 : Int) - A < M := by omega
  clear hok
  go_enter Try.func32, Try.ntmps32
  go_wp2_with fail
  go_loop [8, 9] (fun a i => ∃ j X : Nat, j ≤ M ∧ i = .int .i64 ((j : Int) - 1) ∧ a = .int .u64 X ∧ X < 18446744073709551616 ∧ Hid (X = I.fieldAt N A M j)) (fun _ i => (intOf i + 1).toNat)
  case atStart => exact ⟨M, 0, Nat.le_refl _, rfl, rfl, by omega, Lib.hid (I.fieldAt_start N A M).symm⟩
  case round =>
    obtain ⟨j, X, hj, rfl, rfl, hX, HX⟩ := hrel
    by_cases hlt : 1 ≤ j
    · obtain ⟨i, rfl⟩ : ∃ i, j = i + 1 := ⟨j - 1, by omega⟩
      have hnn := I.div_pow_nonneg N (A + i)
      have HP := Lib.hid (I.field_step (N := N) (A := A) (by omega) HX.out)
      have hnext : 2 * X + N / 2 ^ (A + i) % 2 < 18446744073709551616 := by rw [HP.out]; exact I.fieldAt_lt (by omega)
      have HN := Lib.hid hnext
      have HBV := Lib.hid (I.bit_val N (A + i))
      have e1 := Lib.hid (show ((i + 1 : Nat) : Int) - 1 = i by omega)
      clear hnext
      go_wp2_with fail
      go_round
      case rel =>
        refine ⟨i, 2 * X + N / 2 ^ (A + i) % 2, by omega, rfl, I.val_u64 ?_, HN.out, HP⟩
        rw [HBV.out, I.wrap_u64, I.wrap_u64]
        have := HN.out
        omega
      case measure => simp [intOf]
    · obtain rfl : j = 0 := by omega
      go_wp2_with fail
      go_ret2
      refine ⟨I.ret_two ?_ (by rw [HO.out]; rfl), rfl⟩
      rw [HV.out, HX.out, I.fieldAt_end]
set_option maxHeartbeats 400000 in
theorem RField_any (N : Nat) (a m : Int) (hN : N < 18446744073709551616) (hm1 : -9223372036854775808 ≤ m) (hm2 : m ≤ 9223372036854775807) (w : World) :
    Calls Try.prog 32 #[.int .u64 N, .int .i64 a, .int .i64 m] w fun e w' => e = .returned (.tuple #[.int .u64 (I.fldV N a m), .int .i64 (I.errV (I.fldOk a m))]) ∧ w = w' := by
  by_cases hd : I.fldOk a m = true
  · obtain ⟨A, M, rfl, rfl, hA, hM, hAM⟩ := I.fld_nat hd
    exact RField_ok N A M hN hA hM hAM w
  · have HO := Lib.hid (I.fld_no (N := N) (Bool.eq_false_iff.2 hd))
    have hn : ¬ (0 ≤ a ∧ a < 64 ∧ 1 ≤ m ∧ m ≤ 64 - a) := fun h => hd (by unfold I.fldOk; exact decide_eq_true h)
    clear hd
    by_cases h1 : a < 0
    · clear hn
      go_enter Try.func32, Try.ntmps32
      go_wp2_with fail
      go_ret2
      exact ⟨I.ret_two HO.out.1.symm HO.out.2.symm, rfl⟩
    · by_cases h2 : 63 < a
      · clear hn
        go_enter Try.func32, Try.ntmps32
        go_wp2_with fail
        go_ret2
        exact ⟨I.ret_two HO.out.1.symm HO.out.2.symm, rfl⟩
      · by_cases h3 : m < 1
        · clear hn
          go_enter Try.func32, Try.ntmps32
          go_wp2_with fail
          go_ret2
          exact ⟨I.ret_two HO.out.1.symm HO.out.2.symm, rfl⟩
        · have h4 : 64 - a < m := by omega
          clear hn
          go_enter Try.func32, Try.ntmps32
          go_wp2_with fail
          go_ret2
          exact ⟨I.ret_two HO.out.1.symm HO.out.2.symm, rfl⟩

namespace I
theorem wth_no {N V : Nat} {a m : Int} (h : wthOk a m V = false) : wthV N a m V = 0 ∧ errV (wthOk a m V) = 7 := by
  unfold wthV; rw [h]; exact ⟨rfl, rfl⟩
theorem with_step {N A M V i X : Nat} (hV : V < 2 ^ M) (h : X = withN N A M V / 2 ^ (i + 1)) : 2 * X + (if A ≤ i ∧ i < A + M then V / 2 ^ (i - A) % 2 else N / 2 ^ i % 2) = withN N A M V / 2 ^ i := by
  rw [div_step (withN N A M V) i, with_at hV, h]
theorem with_step_in {N A M V i X : Nat} (hV : V < 2 ^ M) (h : X = withN N A M V / 2 ^ (i + 1)) (h1 : A ≤ i) (h2 : i < A + M) : 2 * X + V / 2 ^ (i - A) % 2 = withN N A M V / 2 ^ i := by
  have := with_step (A := A) (N := N) hV h
  rwa [if_pos ⟨h1, h2⟩] at this
theorem with_step_out {N A M V i X : Nat} (hV : V < 2 ^ M) (h : X = withN N A M V / 2 ^ (i + 1)) (h1 : ¬ (A ≤ i ∧ i < A + M)) : 2 * X + N / 2 ^ i % 2 = withN N A M V / 2 ^ i := by
  have := with_step (A := A) (N := N) hV h
  rwa [if_neg h1] at this
end I
set_option maxHeartbeats 800000 in
theorem RWith_ok (N A M V : Nat) (hN : N < 18446744073709551616) (hA : A < 64) (hM : 1 ≤ M) (hAM : A + M ≤ 64) (hV : V < 2 ^ M) (w : World) :
    Calls Try.prog 34 #[.int .u64 N, .int .i64 A, .int .i64 M, .int .u64 V] w fun e w' => e = .returned (.tuple #[.int .u64 (I.wthV N A M V), .int .i64 (I.errV (I.wthOk A M V))]) ∧ w = w' := by
  have hfok : I.fldOk A M = true := by unfold I.fldOk; exact decide_eq_true (by omega)
  have hok : I.wthOk A M V = true := by unfold I.wthOk; rw [hfok, Int.toNat_natCast]; exact decide_eq_true hV
  have HO := Lib.hid hok
  have HVV := Lib.hid (I.wthV_nat N A M V hok)
  have HE := Lib.hid (show I.errV (I.fldOk A M) = 0 by rw [hfok]; rfl)
  have hV64 : V < 18446744073709551616 := Nat.lt_of_lt_of_le hV (I.pow_le_64 (by omega))
  have hW := I.with_lt hN hV hAM
  have HV := Lib.hid hV
  have HW := Lib.hid hW
  clear hok hfok hV hW
  go_enter Try.func34, Try.ntmps34
  go_wp2_with fail
  refine (RField_ok N A M hN hA hM hAM _).mono ?_
  rintro e w' ⟨rfl, rfl⟩
  rw [HE.out]
  go_wp2_with fail
  refine (below_int _ _ true (by omega) (by omega) (by omega) (by omega) (by rw [Int.toNat_natCast]; exact decide_eq_true (by have := HV.out; omega)) _).mono ?_
  rintro e w' ⟨rfl, rfl⟩
  go_wp2_with fail
  go_loop [12, 13] (fun a i => ∃ j X : Nat, j ≤ 64 ∧ i = .int .i64 ((j : Int) - 1) ∧ a = .int .u64 X ∧ X < 18446744073709551616 ∧ Hid (X = I.withN N A M V / 2 ^ j)) (fun _ i => (intOf i + 1).toNat)
  case atStart => exact ⟨64, 0, by omega, rfl, rfl, by omega, Lib.hid (Nat.div_eq_of_lt HW.out).symm⟩
  case round =>
    obtain ⟨j, X, hj, rfl, rfl, hX, HX⟩ := hrel
    by_cases hlt : 1 ≤ j
    · obtain ⟨i, rfl⟩ : ∃ i, j = i + 1 := ⟨j - 1, by omega⟩
      have hnn := I.div_pow_nonneg N i
      by_cases hin : A ≤ i ∧ i < A + M
      · have hnn2 := I.div_pow_nonneg V (i - A)
        have HP := Lib.hid (I.with_step_in (N := N) HV.out HX.out hin.1 hin.2)
        have hnext : 2 * X + V / 2 ^ (i - A) % 2 < 18446744073709551616 := by
          rw [HP.out]; exact Nat.lt_of_le_of_lt (Nat.div_le_self _ _) HW.out
        have HN := Lib.hid hnext
        have HBV := Lib.hid (I.bit_val V (i - A))
        have h1 := hin.1
        have h2 := hin.2
        clear hnext hin
        go_wp2_with fail
        go_round
        case rel =>
          refine ⟨i, 2 * X + V / 2 ^ (i - A) % 2, by omega, rfl, I.val_u64 ?_, HN.out, HP⟩
          rw [HBV.out, I.wrap_u64, I.wrap_u64]
          have := HN.out
          omega
        case measure => simp [intOf]
      · have HP := Lib.hid (I.with_step_out HV.out HX.out hin)
        have hnext : 2 * X + N / 2 ^ i % 2 < 18446744073709551616 := by
          rw [HP.out]; exact Nat.lt_of_le_of_lt (Nat.div_le_self _ _) HW.out
        have HN := Lib.hid hnext
        have HBV := Lib.hid (I.bit_val N i)
        clear hnext
        by_cases h1 : A ≤ i
        all_goals
          go_wp2_with fail
          go_round
          case rel =>
            refine ⟨i, 2 * X + N / 2 ^ i % 2, by omega, rfl, I.val_u64 ?_, HN.out, HP⟩
            rw [HBV.out, I.wrap_u64, I.wrap_u64]
            have := HN.out
            omega
          case measure => simp [intOf]
    · obtain rfl : j = 0 := by omega
      go_wp2_with fail
      go_ret2
      refine ⟨I.ret_two ?_ (by rw [HO.out]; rfl), rfl⟩
      rw [HVV.out, HX.out, Nat.pow_zero, Nat.div_one]
set_option maxHeartbeats 400000 in
theorem RWith_any (N : Nat) (a m : Int) (V : Nat) (hN : N < 18446744073709551616) (hV64 : V < 18446744073709551616) (hm1 : -9223372036854775808 ≤ m) (hm2 : m ≤ 9223372036854775807) (w : World) :
    Calls Try.prog 34 #[.int .u64 N, .int .i64 a, .int .i64 m, .int .u64 V] w fun e w' => e = .returned (.tuple #[.int .u64 (I.wthV N a m V), .int .i64 (I.errV (I.wthOk a m V))]) ∧ w = w' := by
  by_cases hd : I.fldOk a m = true
  · obtain ⟨A, M, rfl, rfl, hA, hM, hAM⟩ := I.fld_nat hd
    by_cases hv : V < 2 ^ M
    · exact RWith_ok N A M V hN hA hM hAM hv w
    · have HO := Lib.hid (I.wth_no (N := N) (V := V) (a := A) (m := M) (by unfold I.wthOk; rw [hd, Int.toNat_natCast]; exact decide_eq_false hv))
      have HE := Lib.hid (show I.errV (I.fldOk A M) = 0 by rw [hd]; rfl)
      have HV := Lib.hid hv
      clear hd hv
      go_enter Try.func34, Try.ntmps34
      go_wp2_with fail
      refine (RField_ok N A M hN hA hM hAM _).mono ?_
      rintro e w' ⟨rfl, rfl⟩
      rw [HE.out]
      go_wp2_with fail
      refine (below_int _ _ false (by omega) (by omega) (by omega) (by omega) (by rw [Int.toNat_natCast]; exact decide_eq_false (by have := HV.out; omega)) _).mono ?_
      rintro e w' ⟨rfl, rfl⟩
      go_wp2_with fail
      go_ret2
      exact ⟨I.ret_two HO.out.1.symm HO.out.2.symm, rfl⟩
  · have hd' := Bool.eq_false_iff.2 hd
    have HO := Lib.hid (I.wth_no (N := N) (V := V) (a := a) (m := m) (by unfold I.wthOk; rw [hd']; rfl))
    have HE := Lib.hid (show I.errV (I.fldOk a m) = 7 by rw [hd']; rfl)
    clear hd hd'
    go_enter Try.func34, Try.ntmps34
    go_wp2_with fail
    refine (RField_any N a m hN hm1 hm2 _).mono ?_
    rintro e w' ⟨rfl, rfl⟩
    rw [HE.out]
    go_wp2_with fail
    go_ret2
    exact ⟨I.ret_two HO.out.1.symm HO.out.2.symm, rfl⟩
end Go.Proofs.Ythopdpgjfmpgkaa
