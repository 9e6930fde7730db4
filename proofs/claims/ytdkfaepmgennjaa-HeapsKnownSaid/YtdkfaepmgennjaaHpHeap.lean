/- container/heap's Push, Remove and Fix over a queue's values. -/
import Derived.Test.YtdkfaepmgennjaaHpDown
namespace Go.Proofs.Ytdkfaepmgennjaa
open Go.RowKit Go.Maps
open H (IT)
set_option linter.unusedSimpArgs false
set_option maxRecDepth 100000
namespace H
def hpush (ord : Int → Int → Bool) (l : List IT) (x : IT) : List IT := up ord l.length (l ++ [x]) l.length
def mend (ord : Int → Int → Bool) (l : List IT) (i n : Nat) : List IT := if i < (down ord n l i n).2 then (down ord n l i n).1 else up ord i (down ord n l i n).1 i
def pre (ord : Int → Int → Bool) (l : List IT) (i : Nat) : List IT := if i = l.length - 1 then l else mend ord (sw l i (l.length - 1)) i (l.length - 1)
def hrem (ord : Int → Int → Bool) (l : List IT) (i : Nat) : List IT := (pre ord l i).dropLast
theorem mend_len (ord : Int → Int → Bool) (l : List IT) (i n : Nat) : (mend ord l i n).length = l.length := by
  unfold mend
  split
  · rw [down_len]
  · rw [up_len, down_len]
theorem pre_len (ord : Int → Int → Bool) (l : List IT) (i : Nat) : (pre ord l i).length = l.length := by
  unfold pre
  split
  · rfl
  · rw [mend_len, sw_len]
theorem hpush_len (ord : Int → Int → Bool) (l : List IT) (x : IT) : (hpush ord l x).length = l.length + 1 := by unfold hpush; rw [up_len]; simp
end H
/-- A queue's value of another list of the same block, or of a new one. -/
def NewB (w : World) (v v' : Value) : Prop := v'.ownBlock = v.ownBlock ∨ ∀ k, v'.ownBlock = some k → w.heap.size ≤ k
set_option maxHeartbeats 2000000 in
theorem HPush_any (n : Nat) (ord : Int → Int → Bool) (ho : OrdN n ord) (g gm N : Nat) (s v : Value) (nx : Int) (l : List IT) (p q : Int) (w : World) (hq : QAt w g gm n s nx v N l) (hp : (Lit.int .i64 p).wf = true) (hnew : ∀ y ∈ l, y.1 ≠ p) (hl : l.length ≤ 900000) (hN : N + 1 + 2 * l.length < 1000000000) :
    Calls Try.prog 51 #[.iface 98 (.pointer (some ⟨g, 2, none⟩)), .iface 64 (.agg #[.int .i64 p, .int .i64 q])] w fun e w' => e = .returned (.tuple #[]) ∧ ∃ v' N', N' ≤ N + 1 + 2 * l.length ∧ QAt w' g gm n s nx v' N' (H.hpush ord l (p, q)) ∧ Kept w w' g gm v ∧ NewB w v v' := by
  have HP := Lib.hid (Push_any n g gm N s v nx l p q w hq hp hnew (by omega) (by unfold maxLen; omega))
  have HO := Lib.hid ho
  have mP := met_push
  have mN := met_len
  clear hq ho hnew
  go_enter Try.func51, Try.ntmps51
  go_wp2_with fail
  refine HP.out.mono ?_
  rintro e w1 ⟨rfl, v', hq1, hk1, hv1⟩
  obtain ⟨gl, cap, hv⟩ : ∃ gl cap, v' = .slice (some ⟨gl, 0, none⟩) (l.length + 1) cap := by
    rcases hq1.own.some_ with ⟨_, h0⟩ | ⟨gl, cap, h0, -⟩
    · simp at h0
    · exact ⟨gl, cap, by rw [h0]; simp⟩
  subst hv
  obtain ⟨m, hm⟩ : ∃ m, l.length = m := ⟨_, rfl⟩
  rw [hm] at hq1 hv1
  have HL := Lib.hid (VLen_any n g gm (N + 1) _ cap _ s nx _ w1 hq1)
  have HU := Lib.hid (show Calls Try.prog 68 #[.iface 98 (.pointer (some ⟨g, 2, none⟩)), .int .i64 (m : Int)] w1 _ from up_any n ord HO.out g gm gl cap (m + 1) (N + 1) s nx (l ++ [(p, q)]) m w1 hq1 (by simp [hm]) (by omega) (by omega) (by omega))
  have HK := Lib.hid hk1
  have HV := Lib.hid hv1
  have HM := Lib.hid hm
  rw [hm] at hl hN
  clear HP hq1 hk1 hv1 hm
  go_wp2_with fail
  refine HL.out.mono ?_
  rintro e w' ⟨rfl, rfl⟩
  go_wp2_with fail
  refine HU.out.mono ?_
  rintro e w2 ⟨rfl, N', hN', hq2, hk2⟩
  go_wp2_with fail
  go_end0
  exact ⟨rfl, _, N', by rw [HM.out]; omega, by unfold H.hpush; rw [HM.out]; exact hq2, HK.out.trans hk2 HV.out, HV.out⟩
set_option maxHeartbeats 2000000 in
theorem HFix_any (n : Nat) (ord : Int → Int → Bool) (ho : OrdN n ord) (g gm gl cap m N : Nat) (s : Value) (nx : Int) (l : List IT) (i : Nat) (w : World) (hq : QAt w g gm n s nx (.slice (some ⟨gl, 0, none⟩) m cap) N l) (hm : l.length = m) (hi : i < m) (h5 : m ≤ 1000000) (hN : N + 4 * m < 1000000000) :
    Calls Try.prog 54 #[.iface 98 (.pointer (some ⟨g, 2, none⟩)), .int .i64 i] w fun e w' => e = .returned (.tuple #[]) ∧ ∃ N', N' ≤ N + 4 * m ∧ QAt w' g gm n s nx (.slice (some ⟨gl, 0, none⟩) m cap) N' (H.mend ord l i m) ∧ Kept w w' g gm (.slice (some ⟨gl, 0, none⟩) m cap) := by
  have HL := Lib.hid (VLen_any n g gm N _ cap _ s nx _ w hq)
  have HD := Lib.hid (down_any n ord ho g gm gl cap m N s nx l i m w hq hm (Nat.le_refl _) (by omega) (by omega) h5)
  have HE : Hid (H.mend ord l i m = if i < (H.down ord m l i m).2 then (H.down ord m l i m).1 else H.up ord i (H.down ord m l i m).1 i) := Lib.hid rfl
  have HLn : Hid ((H.down ord m l i m).1.length = m) := Lib.hid (by rw [H.down_len]; exact hm)
  have HO := Lib.hid ho
  have mN := met_len
  clear hq ho hm
  generalize H.down ord m l i m = d at HD HE HLn
  obtain ⟨d1, d2⟩ := d
  go_enter Try.func54, Try.ntmps54
  go_wp2_with fail
  refine HL.out.mono ?_
  rintro e w' ⟨rfl, rfl⟩
  go_wp2_with fail
  refine HD.out.mono ?_
  rintro e w1 ⟨rfl, N1, hN1, hq1, hk1⟩
  by_cases hd : i < d2
  · have hb : decide (i < d2) = true := decide_eq_true hd
    have HQ := Lib.hid hq1
    have HK := Lib.hid hk1
    simp only [hb]
    clear HD hq1 hk1
    go_wp2_with fail
    go_end0
    exact ⟨rfl, N1, by omega, by rw [HE.out, if_pos hd]; exact HQ.out, HK.out⟩
  · have hb : decide (i < d2) = false := decide_eq_false hd
    have HU := Lib.hid (up_any n ord HO.out g gm gl cap m N1 s nx d1 i w1 hq1 HLn.out hi (by omega) h5)
    have HK := Lib.hid hk1
    simp only [hb]
    clear HD hq1 hk1
    go_wp2_with fail
    refine HU.out.mono ?_
    rintro e w2 ⟨rfl, N2, hN2, hq2, hk2⟩
    go_wp2_with fail
    go_end0
    exact ⟨rfl, N2, by omega, by rw [HE.out, if_neg hd]; exact hq2, HK.out.trans (v1 := .slice (some ⟨gl, 0, none⟩) m cap) hk2 (.inl rfl)⟩
end Go.Proofs.Ytdkfaepmgennjaa
