/- Contracts of package ints: Fit, Turn, Field and With. -/
import Derived.Test.YthopdpgjfmpgkaaInts2
namespace Go.Proofs.Ythopdpgjfmpgkaa
open Go.RowKit

set_option maxHeartbeats 400000 in
theorem Fit_bad (n b : Int) (sg : Bool) (hb : ¬ (1 ≤ b ∧ b ≤ 64)) (w : World) :
    Calls Try.prog 25 #[.int .i64 n, .int .i64 b, .bool sg] w fun e w' => e = .returned (.tuple #[.int .u64 (I.fitV n b sg), .int .i64 (I.errV (I.fitOk n b sg))]) ∧ w = w' := by
  have HD := Lib.hid (show (decide (1 ≤ b) && decide (b ≤ 64)) = false by simpa using hb)
  have HO := Lib.hid (I.fit_no (I.fit_bad (n := n) (sg := sg) hb))
  clear hb
  go_enter Try.func25, Try.ntmps25
  go_wp2_with fail
  refine (isBits_any _ _).mono ?_
  rintro e w' ⟨rfl, rfl⟩
  rw [HD.out]
  go_wp2_with fail
  go_ret2
  exact ⟨I.ret_two HO.out.1.symm HO.out.2.symm, rfl⟩
set_option maxHeartbeats 400000 in
theorem Fit_ok (n : Int) (b : Nat) (sg : Bool) (hn1 : -9223372036854775808 ≤ n) (hn2 : n ≤ 9223372036854775807) (h1 : 1 ≤ b) (h2 : b ≤ 64) (w : World) :
    Calls Try.prog 25 #[.int .i64 n, .int .i64 b, .bool sg] w fun e w' => e = .returned (.tuple #[.int .u64 (I.fitV n b sg), .int .i64 (I.errV (I.fitOk n b sg))]) ∧ w = w' := by
  have HD := Lib.hid (show (decide (1 ≤ (b : Int)) && decide ((b : Int) ≤ 64)) = true by simp; omega)
  have HL := Lib.hid (I.low_prog (n := n) h2)
  have hlow : I.low n b < 18446744073709551616 := Nat.lt_of_lt_of_le (I.low_lt n b) (I.pow_le_64 h2)
  have hiff := I.fit_iff (n := n) (b := b) (sg := sg) h1 h2 (by omega)
  have HI := Lib.hid hiff
  by_cases hok : I.widOk (I.low n b) b sg = true
  · by_cases hr : I.widV (I.low n b) b sg = n
    · have hf := hiff.2 ⟨hok, hr⟩
      have HV := Lib.hid (I.fit_val h1 hf)
      have HF := Lib.hid hf
      have HE := Lib.hid (show I.errV (I.widOk (I.low n b) b sg) = 0 by rw [hok]; rfl)
      have HR := Lib.hid hr
      clear hiff hok hr hf
      go_enter Try.func25, Try.ntmps25
      go_wp2_with fail
      refine (isBits_any _ _).mono ?_
      rintro e w' ⟨rfl, rfl⟩
      rw [HD.out]
      go_wp2_with fail
      refine (ones_any b h2 _).mono ?_
      rintro e w' ⟨rfl, rfl⟩
      go_wp2_with fail
      rw [HL.out]
      go_wp2_with fail
      refine (Widen_any _ _ _ hlow _).mono ?_
      rintro e w' ⟨rfl, rfl⟩
      rw [HE.out, HR.out]
      go_wp2_with fail
      go_ret2
      exact ⟨I.ret_two HV.out.symm (by rw [HF.out]; rfl), rfl⟩
    · have HO := Lib.hid (I.fit_no (n := n) (b := b) (sg := sg) (by rw [Bool.eq_false_iff]; exact fun h => hr (hiff.1 h).2))
      have HE := Lib.hid (show I.errV (I.widOk (I.low n b) b sg) = 0 by rw [hok]; rfl)
      obtain ⟨r, HR⟩ : ∃ r, Hid (r = I.widV (I.low n b) b sg) := ⟨_, Lib.hid rfl⟩
      have hne : (r == n) = false := by rw [HR.out]; simpa using hr
      have hne2 : (r != n) = true := by rw [HR.out]; simpa using hr
      clear hiff hok hr
      go_enter Try.func25, Try.ntmps25
      go_wp2_with fail
      refine (isBits_any _ _).mono ?_
      rintro e w' ⟨rfl, rfl⟩
      rw [HD.out]
      go_wp2_with fail
      refine (ones_any b h2 _).mono ?_
      rintro e w' ⟨rfl, rfl⟩
      go_wp2_with fail
      rw [HL.out]
      go_wp2_with fail
      refine (Widen_any _ _ _ hlow _).mono ?_
      rintro e w' ⟨rfl, rfl⟩
      rw [HE.out, ← HR.out]
      go_wp2_with fail
      go_ret2
      exact ⟨I.ret_two HO.out.1.symm HO.out.2.symm, rfl⟩
  · have HO := Lib.hid (I.fit_no (n := n) (b := b) (sg := sg) (by rw [Bool.eq_false_iff]; exact fun h => hok (hiff.1 h).1))
    have HE := Lib.hid (show I.errV (I.widOk (I.low n b) b sg) = 7 by rw [Bool.eq_false_iff.2 hok]; rfl)
    clear hiff hok
    go_enter Try.func25, Try.ntmps25
    go_wp2_with fail
    refine (isBits_any _ _).mono ?_
    rintro e w' ⟨rfl, rfl⟩
    rw [HD.out]
    go_wp2_with fail
    refine (ones_any b h2 _).mono ?_
    rintro e w' ⟨rfl, rfl⟩
    go_wp2_with fail
    rw [HL.out]
    go_wp2_with fail
    refine (Widen_any _ _ _ hlow _).mono ?_
    rintro e w' ⟨rfl, rfl⟩
    rw [HE.out]
    go_wp2_with fail
    go_ret2
    exact ⟨I.ret_two HO.out.1.symm HO.out.2.symm, rfl⟩
theorem Fit_any (n b : Int) (sg : Bool) (hn1 : -9223372036854775808 ≤ n) (hn2 : n ≤ 9223372036854775807) (w : World) :
    Calls Try.prog 25 #[.int .i64 n, .int .i64 b, .bool sg] w fun e w' => e = .returned (.tuple #[.int .u64 (I.fitV n b sg), .int .i64 (I.errV (I.fitOk n b sg))]) ∧ w = w' := by
  by_cases hb : 1 ≤ b ∧ b ≤ 64
  · obtain ⟨B, rfl⟩ := Int.eq_ofNat_of_zero_le (show 0 ≤ b by omega)
    exact Fit_ok n B sg hn1 hn2 (by omega) (by omega) w
  · exact Fit_bad n b sg hb w

namespace I
def fldOk (a m : Int) : Bool := decide (0 ≤ a ∧ a < 64 ∧ 1 ≤ m ∧ m ≤ 64 - a)
def fldV (N : Nat) (a m : Int) : Int := if fldOk a m = true then ((fieldN N a.toNat m.toNat : Nat) : Int) else 0
def wthOk (a m : Int) (V : Nat) : Bool := fldOk a m && decide (V < 2 ^ m.toNat)
def wthV (N : Nat) (a m : Int) (V : Nat) : Int := if wthOk a m V = true then ((withN N a.toNat m.toNat V : Nat) : Int) else 0
theorem fld_nat {a m : Int} (h : fldOk a m = true) : ∃ A M : Nat, a = A ∧ m = M ∧ A < 64 ∧ 1 ≤ M ∧ A + M ≤ 64 := by
  unfold fldOk at h
  have h := of_decide_eq_true h
  exact ⟨a.toNat, m.toNat, by omega, by omega, by omega, by omega, by omega⟩
theorem fldV_nat (N A M : Nat) (h : fldOk A M = true) : fldV N A M = ((fieldN N A M : Nat) : Int) := by
  unfold fldV; rw [if_pos h]; simp
theorem wthV_nat (N A M V : Nat) (h : wthOk A M V = true) : wthV N A M V = ((withN N A M V : Nat) : Int) := by
  unfold wthV; rw [if_pos h]; simp
theorem field_u64 {N A M : Nat} (hN : N < 18446744073709551616) (hM : M ≤ 64) : bits .and .u64 ((N : Int) / 2 ^ A) ((2 ^ M - 1 : Nat) : Int) = ((fieldN N A M : Nat) : Int) := by
  have hl := pow_le_64 hM
  have hp := pow_pos M
  rw [cast_pow, ← Int.natCast_ediv, u64_and_nat _ _ (Nat.lt_of_le_of_lt (Nat.div_le_self _ _) hN) (by omega), field_prog]
end I

set_option maxHeartbeats 400000 in
theorem Field_any (N : Nat) (a m : Int) (h2 : N < 18446744073709551616) (w : World) :
    Calls Try.prog 31 #[.int .u64 N, .int .i64 a, .int .i64 m] w fun e w' => e = .returned (.tuple #[.int .u64 (I.fldV N a m), .int .i64 (I.errV (I.fldOk a m))]) ∧ ∃ n, w' = w.drewN n := by
  by_cases hd : I.fldOk a m = true
  · obtain ⟨A, M, rfl, rfl, hA, hM, hAM⟩ := I.fld_nat hd
    have HV := Lib.hid (I.fldV_nat N A M hd)
    have HB := Lib.hid (I.field_u64 (A := A) (M := M) h2 (by omega))
    have HD := Lib.hid hd
    clear hd
    have HD2 : Hid (decide (0 ≤ (A : Int) ∧ (A : Int) < 64 ∧ 1 ≤ (M : Int) ∧ (M : Int) ≤ 64 - A) = true) := HD
    go_enter Try.func31, Try.ntmps31
    go_wp2_with fail
    refine (isField_any _ _ _).mono ?_
    rintro e w' ⟨rfl, rfl⟩
    rw [HD2.out]
    go_wp2_with fail
    go_quiet ((go_at_call 47; exact Calls.quiet_of_same ((ones_any M (by omega) _).mono fun _ _ ⟨h1, h2⟩ => ⟨h1, h2.symm⟩)))
    go_wp2_with fail
    go_ret2
    exact ⟨I.ret_two (by rw [HV.out, ← HB.out]) (by rw [HD.out]; rfl), _, rfl⟩
  · have HO : Hid (I.fldV N a m = 0 ∧ I.errV (I.fldOk a m) = 7) := by
      have h := Bool.eq_false_iff.2 hd
      unfold I.fldV; rw [h]; exact Lib.hid ⟨rfl, rfl⟩
    have HD := Lib.hid (Bool.eq_false_iff.2 hd)
    unfold I.fldOk at HD
    clear hd
    go_enter Try.func31, Try.ntmps31
    go_wp2_with fail
    refine (isField_any _ _ _).mono ?_
    rintro e w' ⟨rfl, rfl⟩
    rw [HD.out]
    go_wp2_with fail
    go_ret2
    exact ⟨I.ret_two HO.out.1.symm HO.out.2.symm, 0, rfl⟩

namespace I
theorem with_u64 {N A M V : Nat} (hN : N < 18446744073709551616) (hV : V < 2 ^ M) (hAM : A + M ≤ 64) :
    bits .or .u64 (bits .andNot .u64 (N : Int) (IntKind.u64.wrap (((2 ^ M - 1 : Nat) : Int) * 2 ^ A))) (IntKind.u64.wrap ((V : Int) * 2 ^ A)) = ((withN N A M V : Nat) : Int) := by
  rw [cast_pow, wrap_u64, wrap_u64, ← Int.natCast_mul, ← Int.natCast_mul]
  have e1 : (((2 ^ M - 1) * 2 ^ A : Nat) : Int) % 18446744073709551616 = (((2 ^ M - 1) * 2 ^ A % 18446744073709551616 : Nat) : Int) := by omega
  have e2 : ((V * 2 ^ A : Nat) : Int) % 18446744073709551616 = ((V * 2 ^ A % 18446744073709551616 : Nat) : Int) := by omega
  rw [e1, e2, u64_andNot_nat _ _ hN (Nat.mod_lt _ (by decide)), u64_or_nat _ _ ?_ (Nat.mod_lt _ (by decide)), with_prog hN hV hAM]
  exact Nat.lt_of_le_of_lt Nat.and_le_left hN
end I
set_option maxHeartbeats 400000 in
theorem With_any (N : Nat) (a m : Int) (V : Nat) (h2 : N < 18446744073709551616) (w : World) :
    Calls Try.prog 33 #[.int .u64 N, .int .i64 a, .int .i64 m, .int .u64 V] w fun e w' => e = .returned (.tuple #[.int .u64 (I.wthV N a m V), .int .i64 (I.errV (I.wthOk a m V))]) ∧ ∃ n, w' = w.drewN n := by
  by_cases hd : I.fldOk a m = true
  · obtain ⟨A, M, rfl, rfl, hA, hM, hAM⟩ := I.fld_nat hd
    have HD := Lib.hid hd
    have HD2 : Hid (decide (0 ≤ (A : Int) ∧ (A : Int) < 64 ∧ 1 ≤ (M : Int) ∧ (M : Int) ≤ 64 - A) = true) := HD
    by_cases hv : V < 2 ^ M
    · have hok : I.wthOk A M V = true := by unfold I.wthOk; rw [hd, Int.toNat_natCast]; exact decide_eq_true hv
      have HV := Lib.hid (I.wthV_nat N A M V hok)
      have HB := Lib.hid (I.with_u64 h2 hv hAM)
      have HF := Lib.hid (decide_eq_true hv)
      have HO := Lib.hid hok
      clear hd hok hv
      go_enter Try.func33, Try.ntmps33
      go_wp2_with fail
      refine (isField_any _ _ _).mono ?_
      rintro e w' ⟨rfl, rfl⟩
      rw [HD2.out]
      go_wp2_with fail
      refine (fits_any V M (by omega) _).mono ?_
      rintro e w' ⟨rfl, rfl⟩
      rw [HF.out]
      go_wp2_with fail
      go_quiet ((go_at_call 47; exact Calls.quiet_of_same ((ones_any M (by omega) _).mono fun _ _ ⟨h1, h2⟩ => ⟨h1, h2.symm⟩)))
      go_wp2_with fail
      go_ret2
      exact ⟨I.ret_two (by rw [HV.out, ← HB.out]) (by rw [HO.out]; rfl), _, rfl⟩
    · have HO : Hid (I.wthV N A M V = 0 ∧ I.errV (I.wthOk A M V) = 7) := by
        have h : I.wthOk A M V = false := by unfold I.wthOk; rw [hd, Int.toNat_natCast]; exact decide_eq_false hv
        unfold I.wthV; rw [h]; exact Lib.hid ⟨rfl, rfl⟩
      have HF := Lib.hid (decide_eq_false hv)
      clear hd hv
      go_enter Try.func33, Try.ntmps33
      go_wp2_with fail
      refine (isField_any _ _ _).mono ?_
      rintro e w' ⟨rfl, rfl⟩
      rw [HD2.out]
      go_wp2_with fail
      refine (fits_any V M (by omega) _).mono ?_
      rintro e w' ⟨rfl, rfl⟩
      rw [HF.out]
      go_wp2_with fail
      go_ret2
      exact ⟨I.ret_two HO.out.1.symm HO.out.2.symm, 0, rfl⟩
  · have HO : Hid (I.wthV N a m V = 0 ∧ I.errV (I.wthOk a m V) = 7) := by
      have h : I.wthOk a m V = false := by unfold I.wthOk; rw [Bool.eq_false_iff.2 hd]; rfl
      unfold I.wthV; rw [h]; exact Lib.hid ⟨rfl, rfl⟩
    have HD := Lib.hid (Bool.eq_false_iff.2 hd)
    unfold I.fldOk at HD
    clear hd
    go_enter Try.func33, Try.ntmps33
    go_wp2_with fail
    refine (isField_any _ _ _).mono ?_
    rintro e w' ⟨rfl, rfl⟩
    rw [HD.out]
    go_wp2_with fail
    go_ret2
    exact ⟨I.ret_two HO.out.1.symm HO.out.2.symm, 0, rfl⟩

namespace I
def trnOk (N : Nat) (b : Int) : Bool := decide (1 ≤ b ∧ b ≤ 64 ∧ N < 2 ^ b.toNat)
def trnV (N : Nat) (b k : Int) : Int := if trnOk N b = true then ((turnN N b.toNat (k % b).toNat : Nat) : Int) else 0
theorem trnV_nat (N B : Nat) (k : Int) (h : trnOk N B = true) : trnV N B k = ((turnN N B (k % B).toNat : Nat) : Int) := by
  unfold trnV; rw [if_pos h, Int.toNat_natCast]
theorem trn_no {N : Nat} {b k : Int} (h : trnOk N b = false) : trnV N b k = 0 ∧ errV (trnOk N b) = 7 := by
  unfold trnV; rw [h]; exact ⟨rfl, rfl⟩
theorem turn_u64 {N B K : Nat} (hN : N < 2 ^ B) (hB : B ≤ 64) (hK : K < B) :
    bits .and .u64 (bits .or .u64 (IntKind.u64.wrap ((N : Int) * 2 ^ K)) ((N : Int) / 2 ^ (B - K))) ((2 ^ B - 1 : Nat) : Int) = ((turnN N B K : Nat) : Int) := by
  have hl := pow_le_64 hB
  have hp := pow_pos B
  rw [cast_pow, cast_pow, wrap_u64, ← Int.natCast_mul, ← Int.natCast_ediv]
  have e1 : ((N * 2 ^ K : Nat) : Int) % 18446744073709551616 = ((N * 2 ^ K % 18446744073709551616 : Nat) : Int) := by omega
  rw [e1, u64_or_nat _ _ (Nat.mod_lt _ (by decide)) (Nat.lt_of_le_of_lt (Nat.div_le_self _ _) (by omega)), u64_and_nat _ _ ?_ (by omega), turn_prog hN hB hK]
  have h64 : (18446744073709551616 : Nat) = 2 ^ 64 := by decide
  rw [h64]
  exact Nat.or_lt_two_pow (Nat.mod_lt _ (by decide)) (Nat.lt_of_le_of_lt (Nat.div_le_self _ _) (by omega))
theorem tmod_neg {k : Int} {B : Nat} (hB : 1 ≤ B) : (k.tmod B < 0 → k.tmod B + B = k % B) ∧ (¬ k.tmod B < 0 → k.tmod B = k % B) := by
  have h := Int.emod_lt_of_pos k (show (0 : Int) < B by omega)
  have h0 := Int.emod_nonneg k (show (B : Int) ≠ 0 by omega)
  rw [Int.tmod_eq_emod, Int.natAbs_natCast]
  split
  · constructor
    · intro _; omega
    · intro _; omega
  · constructor
    · intro _; omega
    · intro _; omega
theorem tmod_lo {k : Int} {B : Nat} (hB : 1 ≤ B) : -(B : Int) < k.tmod B ∧ k.tmod B < B := by
  have h := Int.emod_lt_of_pos k (show (0 : Int) < B by omega)
  have h0 := Int.emod_nonneg k (show (B : Int) ≠ 0 by omega)
  rw [Int.tmod_eq_emod, Int.natAbs_natCast]
  split
  · omega
  · rename_i hc
    have : k % (B : Int) ≠ 0 := fun e => hc (Or.inr (Int.dvd_of_emod_eq_zero e))
    omega
end I
set_option maxHeartbeats 400000 in
theorem Turn_ok (N B : Nat) (k : Int) (h1 : 1 ≤ B) (h2 : B ≤ 64) (hN : N < 2 ^ B) (w : World) :
    Calls Try.prog 29 #[.int .u64 N, .int .i64 B, .int .i64 k] w fun e w' => e = .returned (.tuple #[.int .u64 (I.trnV N B k), .int .i64 (I.errV (I.trnOk N B))]) ∧ ∃ n, w' = w.drewN n := by
  have hok : I.trnOk N B = true := by unfold I.trnOk; exact decide_eq_true ⟨by omega, by omega, by rw [Int.toNat_natCast]; exact hN⟩
  have HO := Lib.hid hok
  have HV := Lib.hid (I.trnV_nat N B k hok)
  have HD := Lib.hid (show (decide (1 ≤ (B : Int)) && decide ((B : Int) ≤ 64)) = true by simp; omega)
  have HF := Lib.hid (decide_eq_true hN)
  have hmm := I.tmod_neg (k := k) h1
  have hlo := I.tmod_lo (k := k) h1
  have hlt := Int.emod_lt_of_pos k (show (0 : Int) < B by omega)
  have hge := Int.emod_nonneg k (show (B : Int) ≠ 0 by omega)
  obtain ⟨K, HK⟩ : ∃ K : Nat, Hid (K = (k % B).toNat) := ⟨_, Lib.hid rfl⟩
  have hKB : K < B := by rw [HK.out]; omega
  have HB := Lib.hid (I.turn_u64 hN h2 hKB)
  have hKk : ((K : Nat) : Int) = k % B := by rw [HK.out]; omega
  rw [← hKk] at hmm
  have HC := Lib.hid (show (B : Int) - (K : Int) = ((B - K : Nat) : Int) by omega)
  clear hok hN hlt hge
  by_cases ht : k.tmod B < 0
  · have hh := Lib.hid (hmm.1 ht)
    clear hmm hKk
    go_enter Try.func29, Try.ntmps29
    go_wp2_with fail
    refine (isBits_any _ _).mono ?_
    rintro e w' ⟨rfl, rfl⟩
    rw [HD.out]
    go_wp2_with fail
    refine (fits_any N B h2 _).mono ?_
    rintro e w' ⟨rfl, rfl⟩
    rw [HF.out]
    go_wp2_with fail
    rw [hh.out]
    go_quiet ((go_at_call 47; exact Calls.quiet_of_same ((ones_any B (by omega) _).mono fun _ _ ⟨h1, h2⟩ => ⟨h1, h2.symm⟩)))
    go_wp2_with fail
    go_ret2
    exact ⟨I.ret_two (by rw [HV.out, ← HK.out, ← HB.out]) (by rw [HO.out]; rfl), _, rfl⟩
  · have hh := Lib.hid (hmm.2 ht)
    clear hmm hKk
    go_enter Try.func29, Try.ntmps29
    go_wp2_with fail
    refine (isBits_any _ _).mono ?_
    rintro e w' ⟨rfl, rfl⟩
    rw [HD.out]
    go_wp2_with fail
    refine (fits_any N B h2 _).mono ?_
    rintro e w' ⟨rfl, rfl⟩
    rw [HF.out]
    go_wp2_with fail
    rw [hh.out]
    go_quiet ((go_at_call 47; exact Calls.quiet_of_same ((ones_any B (by omega) _).mono fun _ _ ⟨h1, h2⟩ => ⟨h1, h2.symm⟩)))
    go_wp2_with fail
    go_ret2
    exact ⟨I.ret_two (by rw [HV.out, ← HK.out, ← HB.out]) (by rw [HO.out]; rfl), _, rfl⟩
set_option maxHeartbeats 400000 in
theorem Turn_any (N : Nat) (b k : Int) (w : World) :
    Calls Try.prog 29 #[.int .u64 N, .int .i64 b, .int .i64 k] w fun e w' => e = .returned (.tuple #[.int .u64 (I.trnV N b k), .int .i64 (I.errV (I.trnOk N b))]) ∧ ∃ n, w' = w.drewN n := by
  by_cases hb : 1 ≤ b ∧ b ≤ 64
  · obtain ⟨B, rfl⟩ := Int.eq_ofNat_of_zero_le (show 0 ≤ b by omega)
    have hB : B ≤ 64 := by omega
    by_cases hf : N < 2 ^ B
    · exact Turn_ok N B k (by omega) hB hf w
    · have HD := Lib.hid (show (decide (1 ≤ (B : Int)) && decide ((B : Int) ≤ 64)) = true by simp; omega)
      have HF := Lib.hid (decide_eq_false hf)
      have HO := Lib.hid (I.trn_no (N := N) (b := B) (k := k) (by unfold I.trnOk; exact decide_eq_false (fun ⟨_, _, h⟩ => hf (by rw [Int.toNat_natCast] at h; exact h))))
      clear hf
      go_enter Try.func29, Try.ntmps29
      go_wp2_with fail
      refine (isBits_any _ _).mono ?_
      rintro e w' ⟨rfl, rfl⟩
      rw [HD.out]
      go_wp2_with fail
      refine (fits_any N B hB _).mono ?_
      rintro e w' ⟨rfl, rfl⟩
      rw [HF.out]
      go_wp2_with fail
      go_ret2
      exact ⟨I.ret_two HO.out.1.symm HO.out.2.symm, 0, rfl⟩
  · have HD := Lib.hid (show (decide (1 ≤ b) && decide (b ≤ 64)) = false by simpa using hb)
    have HO := Lib.hid (I.trn_no (N := N) (b := b) (k := k) (by unfold I.trnOk; exact decide_eq_false (fun ⟨h1, h2, _⟩ => hb ⟨h1, h2⟩)))
    clear hb
    go_enter Try.func29, Try.ntmps29
    go_wp2_with fail
    refine (isBits_any _ _).mono ?_
    rintro e w' ⟨rfl, rfl⟩
    rw [HD.out]
    go_wp2_with fail
    go_ret2
    exact ⟨I.ret_two HO.out.1.symm HO.out.2.symm, 0, rfl⟩
end Go.Proofs.Ythopdpgjfmpgkaa
