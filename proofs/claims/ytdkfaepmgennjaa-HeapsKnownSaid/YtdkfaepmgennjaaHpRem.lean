/- container/heap's Remove over a queue's values. -/
import Derived.Test.YtdkfaepmgennjaaHpHeap
namespace Go.Proofs.Ytdkfaepmgennjaa
open Go.RowKit Go.Maps
open H (IT)
set_option linter.unusedSimpArgs false
set_option maxRecDepth 100000
theorem H.last_of {L : List IT} {m : Nat} (h : L.length = m + 1) : ∃ L0 p q, L = L0 ++ [(p, q)] ∧ L0.length = m ∧ L.dropLast = L0 ∧ H.at_ L m = (p, q) := by
  rcases List.eq_nil_or_concat L with h0 | ⟨L0, ⟨p, q⟩, h0⟩
  · rw [h0] at h; simp at h
  · rw [List.concat_eq_append] at h0
    subst h0
    have hl : L0.length = m := by simpa using h
    refine ⟨L0, p, q, rfl, hl, by simp, ?_⟩
    rw [H.at_eq (by simp; omega)]
    subst hl
    simp
theorem VPop_last (n g gm N gl cap m : Nat) (s : Value) (nx : Int) (L : List IT) (w : World) (hq : QAt w g gm n s nx (.slice (some ⟨gl, 0, none⟩) (m + 1) cap) N L) (hm : L.length = m + 1) (h5 : m ≤ 1000000) :
    Calls Try.prog 118 #[.pointer (some ⟨g, 2, none⟩)] w fun e w' => e = .returned (.iface 64 (.agg #[.int .i64 (H.at_ L m).1, .int .i64 (H.at_ L m).2])) ∧ QAt w' g gm n s nx (.slice (some ⟨gl, 0, none⟩) m cap) N L.dropLast ∧ Kept w w' g gm (.slice (some ⟨gl, 0, none⟩) (m + 1) cap) := by
  obtain ⟨L0, p, q, rfl, h1, h2, h3⟩ := H.last_of hm
  rw [h2, h3]
  exact VPop_any n g gm N gl cap m s nx L0 p q w hq h1 h5
set_option maxHeartbeats 4000000 in
theorem HRemove_any (n : Nat) (ord : Int → Int → Bool) (ho : OrdN n ord) (g gm gl cap m N : Nat) (s : Value) (nx : Int) (l : List IT) (i : Nat) (w : World) (hq : QAt w g gm n s nx (.slice (some ⟨gl, 0, none⟩) (m + 1) cap) N l) (hm : l.length = m + 1) (hi : i < m + 1) (h5 : m + 1 ≤ 1000000) (hN : N + 2 + 4 * (m + 1) < 1000000000) :
    Calls Try.prog 69 #[.iface 98 (.pointer (some ⟨g, 2, none⟩)), .int .i64 i] w fun e w' => e = .returned (.iface 64 (.agg #[.int .i64 (H.at_ (H.pre ord l i) m).1, .int .i64 (H.at_ (H.pre ord l i) m).2])) ∧ ∃ N', N' ≤ N + 2 + 4 * (m + 1) ∧ QAt w' g gm n s nx (.slice (some ⟨gl, 0, none⟩) m cap) N' (H.hrem ord l i) ∧ Kept w w' g gm (.slice (some ⟨gl, 0, none⟩) (m + 1) cap) := by
  have HL := Lib.hid (VLen_any n g gm N _ cap _ s nx _ w hq)
  have HO := Lib.hid ho
  have mN := met_len
  have mS := met_swap
  have mP := met_pop
  have k1 : ((m + 1 : Nat) : Int) = (m : Int) + 1 := rfl
  by_cases hin : i = m
  · subst hin
    have HPr : Hid (H.pre ord l i = l) := Lib.hid (by unfold H.pre; rw [if_pos (by omega)])
    have HV := Lib.hid (VPop_last n g gm N gl cap i s nx l w hq hm (by omega))
    unfold H.hrem
    rw [HPr.out]
    clear hq ho
    go_enter Try.func69, Try.ntmps69
    go_wp2_with fail
    refine HL.out.mono ?_
    rintro e w' ⟨rfl, rfl⟩
    go_wp2_with fail
    refine HV.out.mono ?_
    rintro e w1 ⟨rfl, hq1, hk1⟩
    go_wp2_with fail
    go_ret
    exact ⟨rfl, N, by omega, hq1, hk1⟩
  · have hni : ((m : Int) == (i : Int)) = false := by rw [beq_eq_false_iff_ne]; omega
    have HPr : Hid (H.pre ord l i = H.mend ord (H.sw l i m) i m) := Lib.hid (by unfold H.pre; rw [if_neg (by omega), hm, Nat.add_sub_cancel])
    have HS := Lib.hid (Swap_any n g gm gl cap (m + 1) N s nx l i m w hq hm (by omega) (by omega) hin (by unfold maxLen; omega) h5)
    have HM : Hid (H.mend ord (H.sw l i m) i m = if i < (H.down ord m (H.sw l i m) i m).2 then (H.down ord m (H.sw l i m) i m).1 else H.up ord i (H.down ord m (H.sw l i m) i m).1 i) := Lib.hid rfl
    have HSl : Hid ((H.sw l i m).length = m + 1) := Lib.hid (by rw [H.sw_len]; exact hm)
    unfold H.hrem
    rw [HPr.out]
    clear hq ho
    go_enter Try.func69, Try.ntmps69
    go_wp2_with fail
    refine HL.out.mono ?_
    rintro e w' ⟨rfl, rfl⟩
    go_wp2_with fail
    refine HS.out.mono ?_
    rintro e w1 ⟨rfl, hq1, hk1⟩
    have HD := Lib.hid (down_any n ord HO.out g gm gl cap (m + 1) (N + 2) s nx (H.sw l i m) i m w1 hq1 HSl.out (by omega) (by omega) (by omega) h5)
    have HLn : Hid ((H.down ord m (H.sw l i m) i m).1.length = m + 1) := Lib.hid (by rw [H.down_len]; exact HSl.out)
    have HK1 := Lib.hid hk1
    clear HS hq1 hk1
    generalize H.down ord m (H.sw l i m) i m = d at HD HM HLn
    obtain ⟨d1, d2⟩ := d
    go_wp2_with fail
    refine HD.out.mono ?_
    rintro e w2 ⟨rfl, N2, hN2, hq2, hk2⟩
    have HK2 := Lib.hid (HK1.out.trans (v1 := .slice (some ⟨gl, 0, none⟩) (m + 1) cap) hk2 (.inl rfl))
    by_cases hd : i < d2
    · have hb : decide (i < d2) = true := decide_eq_true hd
      have HE : Hid (H.mend ord (H.sw l i m) i m = d1) := Lib.hid (by rw [HM.out, if_pos hd])
      have HV := Lib.hid (VPop_last n g gm N2 gl cap m s nx d1 w2 hq2 HLn.out (by omega))
      simp only [hb]
      clear HD hq2 hk2 HK1
      go_wp2_with fail
      refine HV.out.mono ?_
      rintro e w3 ⟨rfl, hq3, hk3⟩
      go_wp2_with fail
      go_ret
      exact ⟨by rw [HE.out]; rfl, N2, by omega, by rw [HE.out]; exact hq3, HK2.out.trans (v1 := .slice (some ⟨gl, 0, none⟩) (m + 1) cap) hk3 (.inl rfl)⟩
    · have hb : decide (i < d2) = false := decide_eq_false hd
      have HE : Hid (H.mend ord (H.sw l i m) i m = H.up ord i d1 i) := Lib.hid (by rw [HM.out, if_neg hd])
      have HU := Lib.hid (up_any n ord HO.out g gm gl cap (m + 1) N2 s nx d1 i w2 hq2 HLn.out (by omega) (by omega) h5)
      have HUl : Hid ((H.up ord i d1 i).length = m + 1) := Lib.hid (by rw [H.up_len]; exact HLn.out)
      simp only [hb]
      clear HD hq2 hk2 HK1
      go_wp2_with fail
      refine HU.out.mono ?_
      rintro e w3 ⟨rfl, N3, hN3, hq3, hk3⟩
      have HK3 := Lib.hid (HK2.out.trans (v1 := .slice (some ⟨gl, 0, none⟩) (m + 1) cap) hk3 (.inl rfl))
      have HV := Lib.hid (VPop_last n g gm N3 gl cap m s nx _ w3 hq3 HUl.out (by omega))
      clear HU hq3 hk3 HK2
      go_wp2_with fail
      refine HV.out.mono ?_
      rintro e w4 ⟨rfl, hq4, hk4⟩
      go_wp2_with fail
      go_ret
      exact ⟨by rw [HE.out]; rfl, N3, by omega, by rw [HE.out]; exact hq4, HK3.out.trans (v1 := .slice (some ⟨gl, 0, none⟩) (m + 1) cap) hk4 (.inl rfl)⟩
end Go.Proofs.Ytdkfaepmgennjaa
