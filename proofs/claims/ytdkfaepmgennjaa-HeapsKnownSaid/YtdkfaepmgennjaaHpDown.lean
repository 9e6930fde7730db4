/- container/heap's down over a queue's values. -/
import Derived.Test.YtdkfaepmgennjaaHpUp
namespace Go.Proofs.Ytdkfaepmgennjaa
open Go.RowKit Go.Maps
open H (IT)
set_option linter.unusedSimpArgs false
set_option maxRecDepth 100000
namespace H
/-- Which of the children comes first. -/
def kid (ord : Int → Int → Bool) (l : List IT) (i n : Nat) : Nat := if 2 * i + 2 < n ∧ lt ord (at_ l (2 * i + 2)) (at_ l (2 * i + 1)) = true then 2 * i + 2 else 2 * i + 1
/-- container/heap's down, as a function: the values, and where it ended. -/
def down (ord : Int → Int → Bool) : Nat → List IT → Nat → Nat → List IT × Nat
  | 0, l, i, _ => (l, i)
  | f + 1, l, i, n => if n ≤ 2 * i + 1 then (l, i) else if lt ord (at_ l (kid ord l i n)) (at_ l i) = true then down ord f (sw l i (kid ord l i n)) (kid ord l i n) n else (l, i)
theorem down_len (ord : Int → Int → Bool) : ∀ (f : Nat) (l : List IT) (i n : Nat), (down ord f l i n).1.length = l.length
  | 0, _, _, _ => rfl
  | f + 1, l, i, n => by
    unfold down
    split
    · rfl
    · split
      · rw [down_len ord f, sw_len]
      · rfl
theorem down_off (ord : Int → Int → Bool) (f : Nat) (l : List IT) (i n : Nat) (h : n ≤ 2 * i + 1) : down ord f l i n = (l, i) := by
  cases f
  · rfl
  · show (if n ≤ 2 * i + 1 then (l, i) else _) = _
    rw [if_pos h]
theorem down_stop (ord : Int → Int → Bool) (f : Nat) (l : List IT) (i n j : Nat) (hj : kid ord l i n = j) (h2 : lt ord (at_ l j) (at_ l i) = false) : down ord f l i n = (l, i) := by
  cases f
  · rfl
  · show (if n ≤ 2 * i + 1 then (l, i) else if lt ord (at_ l (kid ord l i n)) (at_ l i) = true then _ else (l, i)) = _
    rw [hj, h2]
    split <;> rfl
theorem down_go (ord : Int → Int → Bool) (f : Nat) (l : List IT) (i n j : Nat) (h : ¬ n ≤ 2 * i + 1) (hj : kid ord l i n = j) (h2 : lt ord (at_ l j) (at_ l i) = true) : down ord (f + 1) l i n = down ord f (sw l i j) j n := by
  show (if n ≤ 2 * i + 1 then (l, i) else if lt ord (at_ l (kid ord l i n)) (at_ l i) = true then down ord f (sw l i (kid ord l i n)) (kid ord l i n) n else (l, i)) = _
  rw [if_neg h, hj, if_pos h2]
end H
set_option maxHeartbeats 4000000 in
theorem down_any (n : Nat) (ord : Int → Int → Bool) (ho : OrdN n ord) (g gm gl cap m N : Nat) (s : Value) (nx : Int) (l : List IT) (i0 z : Nat) (w : World) (hq : QAt w g gm n s nx (.slice (some ⟨gl, 0, none⟩) m cap) N l) (hm : l.length = m) (hz : z ≤ m) (hi : i0 ≤ 1000000) (hN : N + 2 * m < 1000000000) (h5 : m ≤ 1000000) :
    Calls Try.prog 70 #[.iface 98 (.pointer (some ⟨g, 2, none⟩)), .int .i64 i0, .int .i64 z] w fun e w' => e = .returned (.bool (decide (i0 < (H.down ord z l i0 z).2))) ∧ ∃ N', N' ≤ N + 2 * m ∧ QAt w' g gm n s nx (.slice (some ⟨gl, 0, none⟩) m cap) N' (H.down ord z l i0 z).1 ∧ Kept w w' g gm (.slice (some ⟨gl, 0, none⟩) m cap) := by
  have HO := Lib.hid ho
  have HQ := Lib.hid hq
  have HM := Lib.hid hm
  clear ho hq hm
  go_enter Try.func70, Try.ntmps70
  go_wp2_with fail
  go_loopw [7] (fun i wr => ∃ (k f Nk : Nat) (lk : List IT), i = .int .i64 k ∧ k ≤ 1000000 ∧ i0 ≤ k ∧ z ≤ f + (k - i0) ∧ Nk ≤ N + 2 * k - 2 * i0 ∧ (k ≤ z ∨ k = i0) ∧ Hid (lk.length = m) ∧ Hid (QAt wr g gm n s nx (.slice (some ⟨gl, 0, none⟩) m cap) Nk lk) ∧ Hid (H.down ord z l i0 z = H.down ord f lk k z) ∧ Hid (Kept w wr g gm (.slice (some ⟨gl, 0, none⟩) m cap))) (fun i _ => z - (intOf i).toNat)
  case atStart => exact ⟨i0, z, N, l, rfl, hi, Nat.le_refl _, by omega, by omega, .inr rfl, HM, HQ, Lib.hid rfl, Lib.hid (Kept.of_below (Below.refl _ _))⟩
  case round =>
    obtain ⟨k, f, Nk, lk, rfl, hk6, hik, hkf, hNk, hkz, hL, hQ, hU, hK⟩ := hrel
    have mL := met_less
    have mS := met_swap
    by_cases c1 : 2 * k + 1 < z
    · have hk1 : 2 * k + 1 < lk.length := by rw [hL.out]; omega
      have hk0 : k < lk.length := by rw [hL.out]; omega
      have c1' : (2 * (k : Int) + 1) < (z : Int) := by omega
      obtain ⟨f, rfl⟩ : ∃ f', f = f' + 1 := ⟨f - 1, by omega⟩
      have p1 : (0 : Int) ≤ 2 * (k : Int) + 1 := by omega
      by_cases c2 : 2 * k + 2 < z
      · have hk2 : 2 * k + 2 < lk.length := by rw [hL.out]; omega
        have c2' : (2 * (k : Int) + 1 + 1) < (z : Int) := by omega
        have L1 := Lib.hid (show Calls Try.prog 117 #[.pointer (some ⟨g, 2, none⟩), .int .i64 (2 * (k : Int) + 1 + 1), .int .i64 (2 * (k : Int) + 1)] wr _ from Less_any n ord HO.out g gl cap m _ _ nx lk (2 * k + 2) (2 * k + 1) wr hQ.out.row hQ.out.own hL.out hk2 hk1)
        obtain ⟨b1, hb1⟩ : ∃ b, H.lt ord (lk[2 * k + 2]) (lk[2 * k + 1]) = b := ⟨_, rfl⟩
        rw [hb1] at L1
        rw [← H.at_eq hk2, ← H.at_eq hk1] at hb1
        have HB1 := Lib.hid hb1
        clear hb1
        go_wp2_with fail
        refine L1.out.mono ?_
        rintro e w1 ⟨rfl, hbw⟩
        have HQ1 := Lib.hid (hQ.out.below hbw)
        have HK1 := Lib.hid (hK.out.trans (v1 := (.slice (some ⟨gl, 0, none⟩) m cap)) (Kept.of_below hbw) (.inl rfl))
        clear L1 hbw hQ hK
        cases b1 with
        | true =>
          have HK : Hid (H.kid ord lk k z = 2 * k + 2) := Lib.hid (by unfold H.kid; rw [if_pos ⟨c2, HB1.out⟩])
          have L2 := Lib.hid (show Calls Try.prog 117 #[.pointer (some ⟨g, 2, none⟩), .int .i64 (2 * (k : Int) + 1 + 1), .int .i64 ((k : Int))] w1 _ from Less_any n ord HO.out g gl cap m _ _ nx lk (2 * k + 2) (k) w1 HQ1.out.row HQ1.out.own hL.out hk2 hk0)
          obtain ⟨b2, hb2⟩ : ∃ b, H.lt ord (lk[2 * k + 2]) (lk[k]) = b := ⟨_, rfl⟩
          rw [hb2] at L2
          rw [← H.at_eq hk2, ← H.at_eq hk0] at hb2
          have HB2 := Lib.hid hb2
          clear hb2
          go_wp2_with fail
          refine L2.out.mono ?_
          rintro e w2 ⟨rfl, hbw⟩
          have HQ2 := Lib.hid (HQ1.out.below hbw)
          have HK2 := Lib.hid (HK1.out.trans (v1 := (.slice (some ⟨gl, 0, none⟩) m cap)) (Kept.of_below hbw) (.inl rfl))
          clear L2 hbw
          cases b2 with
          | false =>
            have HE : Hid (H.down ord z l i0 z = (lk, k)) := Lib.hid (by rw [hU.out]; exact H.down_stop ord _ lk k z _ HK.out HB2.out)
            go_wp2_with fail
            go_ret
            rw [HE.out]
            exact ⟨by rw [show (decide (i0 < ((lk, k) : List IT × Nat).2)) = decide ((k : Int) > (i0 : Int)) from by show decide (i0 < k) = _; rw [decide_eq_decide]; omega]; rfl, Nk, by omega, HQ2.out, HK2.out⟩
          | true =>
            have HS := Lib.hid (show Calls Try.prog 119 #[.pointer (some ⟨g, 2, none⟩), .int .i64 (k : Int), .int .i64 (2 * (k : Int) + 1 + 1)] w2 _ from Swap_any n g gm gl cap m Nk s nx lk k (2 * k + 2) w2 HQ2.out hL.out hk0 hk2 (by omega) (by unfold maxLen; omega) h5)
            go_wp2_with fail
            refine HS.out.mono ?_
            rintro e w3 ⟨rfl, hq3, hk3⟩
            have HQ3 := Lib.hid hq3
            have HK3 := Lib.hid (HK2.out.trans (v1 := (.slice (some ⟨gl, 0, none⟩) m cap)) hk3 (.inl rfl))
            have HL3 : Hid ((H.sw lk k (2 * k + 2)).length = m) := Lib.hid (by rw [H.sw_len]; exact hL.out)
            have HU3 : Hid (H.down ord z l i0 z = H.down ord f (H.sw lk k (2 * k + 2)) (2 * k + 2) z) := Lib.hid (by rw [hU.out]; exact H.down_go ord f lk k z _ (by omega) HK.out HB2.out)
            clear HS hq3 hk3 HQ2 HK2
            go_wp2_with fail
            go_roundw
            case rel => exact ⟨2 * k + 2, f, Nk + 2, _, by go_num, by omega, by omega, by omega, by omega, by omega, HL3, HQ3, HU3, HK3⟩
            case measure => simp [intOf]; omega
        | false =>
          have HK : Hid (H.kid ord lk k z = 2 * k + 1) := Lib.hid (by unfold H.kid; rw [if_neg (fun h => by rw [HB1.out] at h; cases h.2)])
          have L2 := Lib.hid (show Calls Try.prog 117 #[.pointer (some ⟨g, 2, none⟩), .int .i64 (2 * (k : Int) + 1), .int .i64 ((k : Int))] w1 _ from Less_any n ord HO.out g gl cap m _ _ nx lk (2 * k + 1) (k) w1 HQ1.out.row HQ1.out.own hL.out hk1 hk0)
          obtain ⟨b2, hb2⟩ : ∃ b, H.lt ord (lk[2 * k + 1]) (lk[k]) = b := ⟨_, rfl⟩
          rw [hb2] at L2
          rw [← H.at_eq hk1, ← H.at_eq hk0] at hb2
          have HB2 := Lib.hid hb2
          clear hb2
          go_wp2_with fail
          refine L2.out.mono ?_
          rintro e w2 ⟨rfl, hbw⟩
          have HQ2 := Lib.hid (HQ1.out.below hbw)
          have HK2 := Lib.hid (HK1.out.trans (v1 := (.slice (some ⟨gl, 0, none⟩) m cap)) (Kept.of_below hbw) (.inl rfl))
          clear L2 hbw
          cases b2 with
          | false =>
            have HE : Hid (H.down ord z l i0 z = (lk, k)) := Lib.hid (by rw [hU.out]; exact H.down_stop ord _ lk k z _ HK.out HB2.out)
            go_wp2_with fail
            go_ret
            rw [HE.out]
            exact ⟨by rw [show (decide (i0 < ((lk, k) : List IT × Nat).2)) = decide ((k : Int) > (i0 : Int)) from by show decide (i0 < k) = _; rw [decide_eq_decide]; omega]; rfl, Nk, by omega, HQ2.out, HK2.out⟩
          | true =>
            have HS := Lib.hid (show Calls Try.prog 119 #[.pointer (some ⟨g, 2, none⟩), .int .i64 (k : Int), .int .i64 (2 * (k : Int) + 1)] w2 _ from Swap_any n g gm gl cap m Nk s nx lk k (2 * k + 1) w2 HQ2.out hL.out hk0 hk1 (by omega) (by unfold maxLen; omega) h5)
            go_wp2_with fail
            refine HS.out.mono ?_
            rintro e w3 ⟨rfl, hq3, hk3⟩
            have HQ3 := Lib.hid hq3
            have HK3 := Lib.hid (HK2.out.trans (v1 := (.slice (some ⟨gl, 0, none⟩) m cap)) hk3 (.inl rfl))
            have HL3 : Hid ((H.sw lk k (2 * k + 1)).length = m) := Lib.hid (by rw [H.sw_len]; exact hL.out)
            have HU3 : Hid (H.down ord z l i0 z = H.down ord f (H.sw lk k (2 * k + 1)) (2 * k + 1) z) := Lib.hid (by rw [hU.out]; exact H.down_go ord f lk k z _ (by omega) HK.out HB2.out)
            clear HS hq3 hk3 HQ2 HK2
            go_wp2_with fail
            go_roundw
            case rel => exact ⟨2 * k + 1, f, Nk + 2, _, by go_num, by omega, by omega, by omega, by omega, by omega, HL3, HQ3, HU3, HK3⟩
            case measure => simp [intOf]; omega
      · have c2' : decide ((2 * (k : Int) + 1 + 1) < (z : Int)) = false := decide_eq_false (by omega)
        have HK : Hid (H.kid ord lk k z = 2 * k + 1) := Lib.hid (by unfold H.kid; rw [if_neg (fun h => c2 h.1)])
        have L2 := Lib.hid (show Calls Try.prog 117 #[.pointer (some ⟨g, 2, none⟩), .int .i64 (2 * (k : Int) + 1), .int .i64 ((k : Int))] wr _ from Less_any n ord HO.out g gl cap m _ _ nx lk (2 * k + 1) (k) wr hQ.out.row hQ.out.own hL.out hk1 hk0)
        obtain ⟨b2, hb2⟩ : ∃ b, H.lt ord (lk[2 * k + 1]) (lk[k]) = b := ⟨_, rfl⟩
        rw [hb2] at L2
        rw [← H.at_eq hk1, ← H.at_eq hk0] at hb2
        have HB2 := Lib.hid hb2
        clear hb2
        go_wp2_with fail
        refine L2.out.mono ?_
        rintro e w2 ⟨rfl, hbw⟩
        have HQ2 := Lib.hid (hQ.out.below hbw)
        have HK2 := Lib.hid (hK.out.trans (v1 := (.slice (some ⟨gl, 0, none⟩) m cap)) (Kept.of_below hbw) (.inl rfl))
        clear L2 hbw
        cases b2 with
        | false =>
          have HE : Hid (H.down ord z l i0 z = (lk, k)) := Lib.hid (by rw [hU.out]; exact H.down_stop ord _ lk k z _ HK.out HB2.out)
          go_wp2_with fail
          go_ret
          rw [HE.out]
          exact ⟨by rw [show (decide (i0 < ((lk, k) : List IT × Nat).2)) = decide ((k : Int) > (i0 : Int)) from by show decide (i0 < k) = _; rw [decide_eq_decide]; omega]; rfl, Nk, by omega, HQ2.out, HK2.out⟩
        | true =>
          have HS := Lib.hid (show Calls Try.prog 119 #[.pointer (some ⟨g, 2, none⟩), .int .i64 (k : Int), .int .i64 (2 * (k : Int) + 1)] w2 _ from Swap_any n g gm gl cap m Nk s nx lk k (2 * k + 1) w2 HQ2.out hL.out hk0 hk1 (by omega) (by unfold maxLen; omega) h5)
          go_wp2_with fail
          refine HS.out.mono ?_
          rintro e w3 ⟨rfl, hq3, hk3⟩
          have HQ3 := Lib.hid hq3
          have HK3 := Lib.hid (HK2.out.trans (v1 := (.slice (some ⟨gl, 0, none⟩) m cap)) hk3 (.inl rfl))
          have HL3 : Hid ((H.sw lk k (2 * k + 1)).length = m) := Lib.hid (by rw [H.sw_len]; exact hL.out)
          have HU3 : Hid (H.down ord z l i0 z = H.down ord f (H.sw lk k (2 * k + 1)) (2 * k + 1) z) := Lib.hid (by rw [hU.out]; exact H.down_go ord f lk k z _ (by omega) HK.out HB2.out)
          clear HS hq3 hk3 HQ2 HK2
          go_wp2_with fail
          go_roundw
          case rel => exact ⟨2 * k + 1, f, Nk + 2, _, by go_num, by omega, by omega, by omega, by omega, by omega, HL3, HQ3, HU3, HK3⟩
          case measure => simp [intOf]; omega
    · have c1' : (z : Int) ≤ 2 * (k : Int) + 1 := by omega
      have HE : Hid (H.down ord z l i0 z = (lk, k)) := Lib.hid (by rw [hU.out]; exact H.down_off ord f lk k z (by omega))
      go_wp2_with fail
      go_ret
      rw [HE.out]
      exact ⟨by rw [show (decide (i0 < ((lk, k) : List IT × Nat).2)) = decide ((k : Int) > (i0 : Int)) from by show decide (i0 < k) = _; rw [decide_eq_decide]; omega]; rfl, Nk, by omega, hQ.out, hK.out⟩
end Go.Proofs.Ytdkfaepmgennjaa
