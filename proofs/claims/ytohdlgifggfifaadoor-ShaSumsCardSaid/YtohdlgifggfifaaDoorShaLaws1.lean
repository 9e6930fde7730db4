/- The walks of the laws ShaKnown and ShaPads. -/
import Derived.Test.YtohdlgifggfifaaDoorShaRPad
namespace Go.Proofs.YtohdlgifggfifaaDoor
open Go.RowKit
set_option maxHeartbeats 400000 in
theorem ShaKnown_walk (w : World) (hK : S.SLaid w) :
    Calls Tryd.prog 11 #[] w fun e w' => e = .returned (.bool true) ∧ Below w.heap.size w w' := by
  go_enter Tryd.func11, Tryd.ntmps11
  go_wp2_with fail
  refine (shown_any _ hK).mono ?_
  rintro e w1 ⟨rfl, hb⟩
  go_wp2_with fail
  go_ret
  exact ⟨rfl, hb⟩
theorem S.own_conv {w : World} {base n : Nat} {v : Value} {bs : List UInt8} (h : w.ownsRow base 5 1 v n (bs.map S.byteV)) (hn : n = bs.length) : (convert 31 9 v).run Tryd.prog w = .ok (.string ⟨bs.toArray⟩) w := by
  subst hn; exact conv_own h
set_option maxHeartbeats 1000000 in
theorem ShaPads_walk (n : Int) (w : World) (hK : S.SLaid w) (_h1 : -9223372036854775808 ≤ n) (_h2 : n ≤ 9223372036854775807) :
    Calls Tryd.prog 5 #[.int .i64 n] w fun e w' => e = .returned (.bool true) ∧ Below w.heap.size w w' := by
  have h2 := hK.lt.1
  have HK := Lib.hid hK
  clear hK
  by_cases hr : 0 ≤ n ∧ n ≤ 1152921504606846976
  · obtain ⟨N, rfl⟩ := Int.eq_ofNat_of_zero_le hr.1
    have hN : N ≤ 1152921504606846976 := by omega
    have hpl := S.pad_len N
    have hz := S.zeros_all N
    obtain ⟨P, HP⟩ : ∃ P, Hid (P = S.pad N) := ⟨_, Lib.hid rfl⟩
    obtain ⟨L, HL⟩ : ∃ L, Hid (L = P.length) := ⟨_, Lib.hid rfl⟩
    rw [← HP.out, ← HL.out] at hpl hz
    have hzb : (((N : Int) + (L : Int)) % 64 == 0) = true := by rw [beq_iff_eq]; omega
    have h9 : (9 : Int) ≤ L := by omega
    have h72 : (L : Int) ≤ 72 := by omega
    clear hr hz _h1 _h2
    go_enter Tryd.func5, Tryd.ntmps5
    go_wp2_with fail
    refine (Pad_yes N hN _).mono ?_
    rintro e w1 ⟨v1, rfl, hown1, hb1⟩
    rw [← HP.out, ← HL.out] at hown1
    obtain ⟨A1, c1, rfl, _⟩ := S.own_slice hown1
    go_wp2_with fail
    refine (RPad_yes N hN _).mono ?_
    rintro e w2 ⟨v2, rfl, hown2, hb2⟩
    rw [← HP.out, ← HL.out] at hown2
    have hown1' := own_below hown1 hb2
    have hcv1 := S.own_conv hown1' HL.out
    have hcv2 := S.own_conv hown2 HL.out
    have HB2 := Lib.hid (hb1.trans (hb2.mono hb1.size))
    clear hown1 hown2 hown1' hb1 hb2
    go_wp2_with fail
    refine (shown_any _ (HK.out.below HB2.out (by omega))).mono ?_
    rintro e w3 ⟨rfl, hb3⟩
    have HB3 := Lib.hid (HB2.out.trans (hb3.mono HB2.out.size))
    clear hb3 hcv1 hcv2
    go_wp2_with fail
    go_ret
    exact ⟨rfl, HB3.out⟩
  · have hn : n < 0 ∨ 1152921504606846976 < n := by omega
    have HN := Lib.hid hn
    have hcv := conv_none w 0
    clear hr hn _h1 _h2
    go_enter Tryd.func5, Tryd.ntmps5
    go_wp2_with fail
    refine (Pad_no n HN.out _).mono ?_
    rintro e w1 ⟨rfl, rfl⟩
    go_wp2_with fail
    refine (RPad_no n HN.out _).mono ?_
    rintro e w2 ⟨rfl, rfl⟩
    go_wp2_with fail
    refine (shown_any _ HK.out).mono ?_
    rintro e w3 ⟨rfl, hb3⟩
    clear hcv
    go_wp2_with fail
    go_ret
    exact ⟨rfl, hb3⟩
end Go.Proofs.YtohdlgifggfifaaDoor
