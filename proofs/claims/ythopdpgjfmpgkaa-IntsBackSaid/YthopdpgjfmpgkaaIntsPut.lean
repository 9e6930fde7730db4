/- Contracts of Put of package ints and of its reference. -/
import Derived.Test.YthopdpgjfmpgkaaIntsMem
namespace Go.Proofs.Ythopdpgjfmpgkaa
open Go.RowKit
namespace I
def putOk (N : Nat) (b : Int) : Bool := decide (1 ≤ b ∧ b ≤ 8 ∧ N < 2 ^ (8 * b.toNat))
def putL (l : List UInt8) (N : Nat) (b : Int) : List UInt8 := if putOk N b = true then l ++ be N b.toNat else []
theorem put_no {l : List UInt8} {N : Nat} {b : Int} (h : putOk N b = false) : putL l N b = [] ∧ errV (putOk N b) = 7 := by
  unfold putL; rw [h]; exact ⟨rfl, rfl⟩
theorem putL_yes {l : List UInt8} {N k : Nat} (h : putOk N k = true) : putL l N k = l ++ be N k := by unfold putL; rw [if_pos h, Int.toNat_natCast]
theorem putOk_nat {N k : Nat} (h1 : 1 ≤ k) (h2 : k ≤ 8) : putOk N k = decide (N < 2 ^ (8 * k)) := by
  unfold putOk
  rw [Int.toNat_natCast, decide_eq_decide]
  exact ⟨fun ⟨_, _, h⟩ => h, fun h => ⟨by omega, by omega, h⟩⟩
end I
theorem ret_vi {v : Value} {a b : Int} (h : a = b) : Ending.returned (.tuple #[v, .int .i64 a]) = .returned (.tuple #[v, .int .i64 b]) := by rw [h]
set_option maxHeartbeats 1000000 in
theorem Put_any (A : Option Addr) (c : Nat) (l : List UInt8) (N : Nat) (b : Int) (w : World) (hb : BytesIn w w.heap.size A c l) (hl : l.length ≤ 100000) :
    Calls Try.prog 13 #[.slice A l.length c, .int .u64 N, .int .i64 b] w fun e w' => ∃ v, e = .returned (.tuple #[v, .int .i64 (I.errV (I.putOk N b))]) ∧ w'.ownsRow w.heap.size 5 1 v (I.putL l N b).length ((I.putL l N b).map byteV) ∧ Below w.heap.size w w' := by
  by_cases hw : 1 ≤ b ∧ b ≤ 8
  · obtain ⟨k, rfl⟩ := Int.eq_ofNat_of_zero_le (show 0 ≤ b by omega)
    have h1 : 1 ≤ k := by omega
    have h2 : k ≤ 8 := by omega
    have hD : (decide (1 ≤ (k : Int)) && decide ((k : Int) ≤ 8)) = true := by simp; omega
    have HD := Lib.hid hD
    have H8 := Lib.hid (show (8 : Int) * (k : Int) = ((8 * k : Nat) : Int) by omega)
    by_cases hf : N < 2 ^ (8 * k)
    · have hok : I.putOk N k = true := by rw [I.putOk_nat h1 h2]; exact decide_eq_true hf
      have HF := Lib.hid (decide_eq_true hf)
      have HO := Lib.hid hok
      have HL := Lib.hid (I.putL_yes (l := l) hok)
      clear hw hD hf hok
      go_enter Try.func13, Try.ntmps13
      go_wp2_with fail
      refine (isWidth_any _ _).mono ?_
      rintro e w' ⟨rfl, rfl⟩
      rw [HD.out]
      go_wp2_with fail
      rw [H8.out]
      refine (fits_any N (8 * k) (by omega) _).mono ?_
      rintro e w' ⟨rfl, rfl⟩
      rw [HF.out]
      go_wp2_with fail
      refine (withRoom_any A c l k _ hb hl (by omega)).mono ?_
      rintro e w1 ⟨v1, rfl, hown1, hb1⟩
      go_wp2_with fail
      refine (appendBytes_any v1 l N k _ _ hown1 hb1.size (by omega) h1 h2).mono ?_
      rintro e w2 ⟨v2, rfl, hown2, hb2⟩
      go_wp2_with fail
      go_ret2
      exact ⟨v2, ret_vi (by rw [HO.out]; rfl), by rw [HL.out]; exact hown2, hb1.trans hb2⟩
    · have hok : I.putOk N k = false := by rw [I.putOk_nat h1 h2]; exact decide_eq_false hf
      have HF := Lib.hid (decide_eq_false hf)
      have HO := Lib.hid (I.put_no (l := l) hok)
      clear hw hD hf hok
      go_enter Try.func13, Try.ntmps13
      go_wp2_with fail
      refine (isWidth_any _ _).mono ?_
      rintro e w' ⟨rfl, rfl⟩
      rw [HD.out]
      go_wp2_with fail
      rw [H8.out]
      refine (fits_any N (8 * k) (by omega) _).mono ?_
      rintro e w' ⟨rfl, rfl⟩
      rw [HF.out]
      go_wp2_with fail
      go_ret2
      exact ⟨_, ret_vi HO.out.2.symm, by rw [HO.out.1]; exact World.ownsRow_nil _ _ _ _, Below.refl _ _⟩
  · have HD := Lib.hid (show (decide (1 ≤ b) && decide (b ≤ 8)) = false by simpa using hw)
    have HO := Lib.hid (I.put_no (l := l) (N := N) (b := b) (by unfold I.putOk; exact decide_eq_false (fun ⟨x, y, _⟩ => hw ⟨x, y⟩)))
    clear hw
    go_enter Try.func13, Try.ntmps13
    go_wp2_with fail
    refine (isWidth_any _ _).mono ?_
    rintro e w' ⟨rfl, rfl⟩
    rw [HD.out]
    go_wp2_with fail
    go_ret2
    exact ⟨_, ret_vi HO.out.2.symm, by rw [HO.out.1]; exact World.ownsRow_nil _ _ _ _, Below.refl _ _⟩
end Go.Proofs.Ythopdpgjfmpgkaa
