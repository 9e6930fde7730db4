/- container/heap's up over a queue's values. -/
import Derived.Test.YtdkfaepmgennjaaHpPop
import Derived.LoopTactic
namespace Go.Proofs.Ytdkfaepmgennjaa
open Go.RowKit Go.Maps
open H (IT)
set_option linter.unusedSimpArgs false
set_option maxRecDepth 100000
namespace H
def at_ (l : List IT) (k : Nat) : IT := l.getD k (0, 0)
theorem at_eq {l : List IT} {k : Nat} (h : k < l.length) : at_ l k = l[k] := by unfold at_; simp [h]
/-- container/heap's up, as a function. -/
def up (ord : Int → Int → Bool) : Nat → List IT → Nat → List IT
  | 0, l, _ => l
  | f + 1, l, j => if j = 0 then l else if lt ord (at_ l j) (at_ l ((j - 1) / 2)) = true then up ord f (sw l ((j - 1) / 2) j) ((j - 1) / 2) else l
theorem up_zero (ord : Int → Int → Bool) (f : Nat) (l : List IT) : up ord f l 0 = l := by cases f <;> rfl
theorem up_len (ord : Int → Int → Bool) : ∀ (f : Nat) (l : List IT) (j : Nat), (up ord f l j).length = l.length
  | 0, _, _ => rfl
  | f + 1, l, j => by
    unfold up
    split
    · rfl
    · split
      · rw [up_len ord f, sw_len]
      · rfl
end H
theorem met_less (f : Nat) (u : Value) (w : World) : (method (f + 1) 98 u "Less").run Try.prog w = .ok (117, u) w := by
  rfl
theorem met_swap (f : Nat) (u : Value) (w : World) : (method (f + 1) 98 u "Swap").run Try.prog w = .ok (119, u) w := by
  rfl
theorem met_len (f : Nat) (u : Value) (w : World) : (method (f + 1) 98 u "Len").run Try.prog w = .ok (50, u) w := by
  rfl
theorem met_pop (f : Nat) (u : Value) (w : World) : (method (f + 1) 98 u "Pop").run Try.prog w = .ok (118, u) w := by
  rfl
theorem met_push (f : Nat) (u : Value) (w : World) : (method (f + 1) 98 u "Push").run Try.prog w = .ok (40, u) w := by
  rfl
set_option maxHeartbeats 2000000 in
theorem up_any (n : Nat) (ord : Int → Int → Bool) (ho : OrdN n ord) (g gm gl cap m N : Nat) (s : Value) (nx : Int) (l : List IT) (j : Nat) (w : World) (hq : QAt w g gm n s nx (.slice (some ⟨gl, 0, none⟩) m cap) N l) (hm : l.length = m) (hj : j < m) (hN : N + 2 * j < 1000000000) (h5 : m ≤ 1000000) :
    Calls Try.prog 68 #[.iface 98 (.pointer (some ⟨g, 2, none⟩)), .int .i64 j] w fun e w' => e = .returned (.tuple #[]) ∧ ∃ N', N' ≤ N + 2 * j ∧ QAt w' g gm n s nx (.slice (some ⟨gl, 0, none⟩) m cap) N' (H.up ord j l j) ∧ Kept w w' g gm (.slice (some ⟨gl, 0, none⟩) m cap) := by
  have HO := Lib.hid ho
  have HQ := Lib.hid hq
  have HM := Lib.hid hm
  clear ho hq hm
  go_enter Try.func68, Try.ntmps68
  go_wp2_with fail
  go_loopw [1] (fun i wr => ∃ (k f Nk : Nat) (lk : List IT), i = .int .i64 k ∧ k ≤ j ∧ k ≤ f ∧ Nk + 2 * k ≤ N + 2 * j ∧ Hid (lk.length = m) ∧ Hid (QAt wr g gm n s nx (.slice (some ⟨gl, 0, none⟩) m cap) Nk lk) ∧ Hid (H.up ord j l j = H.up ord f lk k) ∧ Hid (Kept w wr g gm (.slice (some ⟨gl, 0, none⟩) m cap))) (fun i _ => (intOf i).toNat)
  case atStart => exact ⟨j, j, N, l, rfl, Nat.le_refl _, Nat.le_refl _, Nat.le_refl _, HM, HQ, Lib.hid rfl, Lib.hid (Kept.of_below (Below.refl _ _))⟩
  case round =>
    obtain ⟨k, f, Nk, lk, rfl, hkj, hkf, hNk, hL, hQ, hU, hK⟩ := hrel
    rcases Nat.eq_zero_or_pos k with rfl | hk0
    · go_wp2_with fail
      go_end0
      exact ⟨rfl, Nk, by omega, by rw [hU.out, H.up_zero]; exact hQ.out, hK.out⟩
    · obtain ⟨k, rfl⟩ : ∃ k', k = k' + 1 := ⟨k - 1, by omega⟩
      obtain ⟨f, rfl⟩ : ∃ f', f = f' + 1 := ⟨f - 1, by omega⟩
      have mL := met_less
      have mS := met_swap
      have hk1 : k + 1 < lk.length := by rw [hL.out]; omega
      have hk2 : k / 2 < lk.length := by rw [hL.out]; omega
      have hne : ((k : Int) / 2 == (k : Int) + 1) = false := by
        rw [beq_eq_false_iff_ne]; omega
      have HLs := Lib.hid (show Calls Try.prog 117 #[.pointer (some ⟨g, 2, none⟩), .int .i64 ((k : Int) + 1), .int .i64 ((k : Int) / 2)] wr _ from Less_any n ord HO.out g gl cap m _ _ nx lk (k + 1) (k / 2) wr hQ.out.row hQ.out.own hL.out hk1 hk2)
      have HUs : Hid (H.up ord (f + 1) lk (k + 1) = if H.lt ord (lk[k + 1]) (lk[k / 2]) = true then H.up ord f (H.sw lk (k / 2) (k + 1)) (k / 2) else lk) := Lib.hid (by
        rw [← H.at_eq hk1, ← H.at_eq hk2]
        show (if k + 1 = 0 then lk else if H.lt ord (H.at_ lk (k + 1)) (H.at_ lk ((k + 1 - 1) / 2)) = true then H.up ord f (H.sw lk ((k + 1 - 1) / 2) (k + 1)) ((k + 1 - 1) / 2) else lk) = _
        rw [if_neg (by omega), Nat.add_sub_cancel])
      generalize H.lt ord (lk[k + 1]) (lk[k / 2]) = bb at HLs HUs
      go_wp2_with fail
      refine HLs.out.mono ?_
      rintro e w1 ⟨rfl, hb1⟩
      have HQ1 := Lib.hid (hQ.out.below hb1)
      have HK1 := Lib.hid (hK.out.trans (v1 := .slice (some ⟨gl, 0, none⟩) m cap) (Kept.of_below hb1) (.inl rfl))
      clear HLs hb1 hQ hK
      cases bb with
      | false =>
        go_wp2_with fail
        go_end0
        exact ⟨rfl, Nk, by omega, by rw [hU.out, HUs.out]; exact HQ1.out, HK1.out⟩
      | true =>
        have HS := Lib.hid (show Calls Try.prog 119 #[.pointer (some ⟨g, 2, none⟩), .int .i64 ((k : Int) / 2), .int .i64 ((k : Int) + 1)] w1 _ from Swap_any n g gm gl cap m Nk s nx lk (k / 2) (k + 1) w1 HQ1.out hL.out hk2 hk1 (by omega) (by unfold maxLen; omega) h5)
        go_wp2_with fail
        refine HS.out.mono ?_
        rintro e w2 ⟨rfl, hq2, hk2'⟩
        have HQ2 := Lib.hid hq2
        have HK2 := Lib.hid (HK1.out.trans (v1 := .slice (some ⟨gl, 0, none⟩) m cap) hk2' (.inl rfl))
        have HL2 : Hid ((H.sw lk (k / 2) (k + 1)).length = m) := Lib.hid (by rw [H.sw_len]; exact hL.out)
        have HU2 : Hid (H.up ord j l j = H.up ord f (H.sw lk (k / 2) (k + 1)) (k / 2)) := Lib.hid (by rw [hU.out, HUs.out]; rfl)
        clear HS hq2 hk2' HQ1 HK1
        go_wp2_with fail
        go_roundw
        case rel => exact ⟨k / 2, f, Nk + 2, _, by go_num, by omega, by omega, by omega, HL2, HQ2, HU2, HK2⟩
        case measure => simp [intOf]; omega
end Go.Proofs.Ytdkfaepmgennjaa
