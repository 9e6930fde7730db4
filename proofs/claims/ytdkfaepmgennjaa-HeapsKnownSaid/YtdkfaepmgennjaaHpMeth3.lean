/- The methods of a queue: Pop, Set, Remove. -/
import Derived.Test.YtdkfaepmgennjaaHpMeth2
namespace Go.Proofs.Ytdkfaepmgennjaa
open Go.RowKit Go.Maps
open H (IT)
set_option linter.unusedSimpArgs false
set_option maxRecDepth 100000
set_option maxHeartbeats 1000000 in
theorem QPop_any (n : Nat) (ord : Int → Int → Bool) (ho : OrdN n ord) (g gm gl cap m N : Nat) (nx : Int) (l : List IT) (w : World) (hq : QAt w g gm n (self g) nx (.slice (some ⟨gl, 0, none⟩) (m + 1) cap) N l) (hm : l.length = m + 1) (h5 : m + 1 ≤ 1000000) (hN : N + 2 + 4 * (m + 1) < 1000000000) :
    Calls Try.prog 21 #[.pointer (some ⟨g, 0, none⟩)] w fun e w' => e = .returned (.tuple #[.int .i64 (H.at_ l 0).1, .int .i64 (H.at_ (H.pre ord l 0) m).2, .int .i64 0]) ∧ ∃ N', N' ≤ N + 2 + 4 * (m + 1) ∧ QAt w' g gm n (self g) nx (.slice (some ⟨gl, 0, none⟩) m cap) N' (H.hrem ord l 0) ∧ Kept w w' g gm (.slice (some ⟨gl, 0, none⟩) (m + 1) cap) := by
  have HP := Lib.hid (Peek_any n g gm gl cap m N nx l w hq hm)
  have HT := Lib.hid (fun w (hq : QAt w g gm n (self g) nx (.slice (some ⟨gl, 0, none⟩) (m + 1) cap) N l) => takeOut_any n ord ho g gm gl cap m N nx l 0 w hq hm (by omega) h5 hN)
  have HQ := Lib.hid hq
  clear hq ho
  go_enter Try.func21, Try.ntmps21
  go_wp2_with fail
  refine HP.out.mono ?_
  rintro e w1 ⟨rfl, hb1⟩
  have HT1 := Lib.hid (show Calls Try.prog 52 #[.pointer (some ⟨g, 0, none⟩), .int .i64 0] w1 _ from HT.out w1 (HQ.out.below hb1))
  have HB := Lib.hid hb1
  clear hb1 HT
  go_wp2_with fail
  refine HT1.out.mono ?_
  rintro e w2 ⟨rfl, N', hN', hq2, hk2⟩
  go_wp2_with fail
  go_ret3
  exact ⟨rfl, N', hN', hq2, (Kept.of_below HB.out).trans (v1 := .slice (some ⟨gl, 0, none⟩) (m + 1) cap) hk2 (.inl rfl)⟩
theorem QPop_none (n g gm N : Nat) (nx : Int) (v : Value) (w : World) (hq : QAt w g gm n (self g) nx v N []) :
    Calls Try.prog 21 #[.pointer (some ⟨g, 0, none⟩)] w fun e w' => e = .returned (.tuple #[.int .i64 0, .int .i64 0, .int .i64 4]) ∧ w = w' := by
  have HP := Lib.hid (Peek_none n g gm N nx v w hq)
  clear hq
  go_enter Try.func21, Try.ntmps21
  go_wp2_with fail
  refine HP.out.mono ?_
  rintro e w' ⟨rfl, rfl⟩
  go_wp2_with fail
  go_ret3
  exact ⟨rfl, rfl⟩
set_option maxHeartbeats 1000000 in
theorem QRemove_any (n : Nat) (ord : Int → Int → Bool) (ho : OrdN n ord) (g gm gl cap m N : Nat) (nx : Int) (l : List IT) (k : Nat) (h : Int) (w : World) (hq : QAt w g gm n (self g) nx (.slice (some ⟨gl, 0, none⟩) (m + 1) cap) N l) (hm : l.length = m + 1) (hk : k < l.length) (hh : (l[k]).1 = h) (h5 : m + 1 ≤ 1000000) (hN : N + 2 + 4 * (m + 1) < 1000000000) :
    Calls Try.prog 24 #[.pointer (some ⟨g, 0, none⟩), .int .i64 h] w fun e w' => e = .returned (.tuple #[.int .i64 (H.at_ (H.pre ord l k) m).2, .int .i64 0]) ∧ ∃ N', N' ≤ N + 2 + 4 * (m + 1) ∧ QAt w' g gm n (self g) nx (.slice (some ⟨gl, 0, none⟩) m cap) N' (H.hrem ord l k) ∧ Kept w w' g gm (.slice (some ⟨gl, 0, none⟩) (m + 1) cap) := by
  have HP := Lib.hid (placeOf_any n g gm N _ nx l w hq k hk h hh)
  have HT := Lib.hid (takeOut_any n ord ho g gm gl cap m N nx l k w hq hm (by omega) h5 hN)
  clear hq ho hh
  go_enter Try.func24, Try.ntmps24
  go_wp2_with fail
  refine HP.out.mono ?_
  rintro e w' ⟨rfl, rfl⟩
  go_wp2_with fail
  refine HT.out.mono ?_
  rintro e w2 ⟨rfl, N', hN', hq2, hk2⟩
  go_wp2_with fail
  go_ret2
  exact ⟨rfl, N', hN', hq2, hk2⟩
theorem set_self {α : Type} {l : List α} {i : Nat} {a : α} (h : l[i]? = some a) : l.set i a = l := by
  obtain ⟨hi, rfl⟩ := List.getElem?_eq_some_iff.1 h
  exact List.set_getElem_self hi
/-- The value with one handle is another one. -/
theorem QAt.setv {w : World} {g gm gl cap m n N : Nat} {s : Value} {nx : Int} {l : List IT} (h : QAt w g gm n s nx (.slice (some ⟨gl, 0, none⟩) m cap) N l) (k : Nat) (hk : k < l.length) (y : Int) :
    QAt (w.setCell ⟨gl, k * 2 + 1, none⟩ (.int .i64 y)) g gm n s nx (.slice (some ⟨gl, 0, none⟩) m cap) N (l.set k ((l[k]).1, y)) := by
  obtain ⟨D, hD, hS⟩ := h.map
  have hng : gl ≠ g := fun e => h.ng (by rw [e]; rfl)
  have hnm : gl ≠ gm := fun e => h.nm (by rw [e]; rfl)
  have hfst : ∀ j (hj : j < (l.set k ((l[k]).1, y)).length), ((l.set k ((l[k]).1, y))[j]).1 = (l[j]'(by simpa using hj)).1 := fun j hj => by
    rw [List.getElem_set]
    split
    · rename_i e; subst e; rfl
    · rfl
  have hown : OwnIt (w.setCell ⟨gl, k * 2 + 1, none⟩ (.int .i64 y)) (.slice (some ⟨gl, 0, none⟩) m cap) (l.set k ((l[k]).1, y)) := by
    have hc := (h.own.at_ hk).2.1
    rcases h.own.2 with ⟨e0, _⟩ | ⟨g', cap', cur, e0, hb, hg, h1, h2, h3, h4⟩
    · cases e0
    · injection e0 with e1 e2 e3
      injection e1 with e1
      injection e1 with e1
      subst e1 e3
      have r2 := heap_setCell_same w gl (k * 2 + 1) _ _ (.int .i64 y) hg
      have hl : (l.set k ((l[k]).1, y)).length = l.length := by simp
      refine ⟨by rw [itCells_len], .inr ⟨gl, cap, _, by rw [hl, e2], hb, r2, by rw [hl]; exact h1, h2, by simpa using h3, ?_⟩⟩
      rw [hl, Array.toList_setIfInBounds, List.take_set, h4, ← itCells_set]
      rw [set_self (itCells_at l k hk).1]
  refine ⟨(heap_setCell_other _ _ _ _ (fun e => hng e.symm)).trans h.row, hown, ⟨D, hD.kept (row := some gl) (gset ⟨rfl, rfl, rfl, Nat.le_refl _, fun _ _ _ => rfl⟩ _ _) (fun e => hnm (by injection e with e; exact e.symm)), ⟨hS.isMap, fun j hj z => ?_, fun t ht z => ?_⟩⟩, h.ngm, h.ng, h.nm, fun a b ha hb e => ?_, fun x hx => ?_⟩
  · rw [hfst j hj]; exact hS.at_ j (by simpa using hj) z
  · refine hS.no t (fun x hx => ?_) z
    obtain ⟨j, hj, rfl⟩ := List.getElem_of_mem hx
    rw [← hfst j (by simpa using hj)]
    exact ht _ (List.getElem_mem _)
  · rw [hfst a ha, hfst b hb] at e
    exact h.uniq a b (by simpa using ha) (by simpa using hb) e
  · obtain ⟨j, hj, rfl⟩ := List.getElem_of_mem hx
    rw [hfst j hj]
    exact h.wf _ (List.getElem_mem _)
set_option maxHeartbeats 1000000 in
theorem QSet_any (n : Nat) (ord : Int → Int → Bool) (ho : OrdN n ord) (g gm gl cap m N : Nat) (nx : Int) (l : List IT) (k : Nat) (h y : Int) (w : World) (hq : QAt w g gm n (self g) nx (.slice (some ⟨gl, 0, none⟩) m cap) N l) (hm : l.length = m) (hk : k < l.length) (hh : (l[k]).1 = h) (h5 : m ≤ 1000000) (hN : N + 4 * m < 1000000000) :
    Calls Try.prog 25 #[.pointer (some ⟨g, 0, none⟩), .int .i64 h, .int .i64 y] w fun e w' => e = .returned (.int .i64 0) ∧ ∃ N', N' ≤ N + 4 * m ∧ QAt w' g gm n (self g) nx (.slice (some ⟨gl, 0, none⟩) m cap) N' (H.mend ord (l.set k (h, y)) k m) ∧ Kept w w' g gm (.slice (some ⟨gl, 0, none⟩) m cap) := by
  have HP := Lib.hid (placeOf_any n g gm N _ nx l w hq k hk h hh)
  have hq1 := hq.setv k hk y
  rw [hh] at hq1
  have HF := Lib.hid (HFix_any n ord ho g gm gl cap m N _ nx _ k _ hq1 (by simp [hm]) (by omega) h5 hN)
  have c4 : w.cell? ⟨g, 4, none⟩ = some (.slice (some ⟨gl, 0, none⟩) m cap) := by rw [cell_of_row _ _ _ _ _ _ hq.row]; rfl
  have c1 := (hq.own.at_ hk).2.2
  have z1 := hq.own.frozen (k * 2 + 1)
  have hkm : k < m := by omega
  have HK : Hid (Kept w (w.setCell ⟨gl, k * 2 + 1, none⟩ (.int .i64 y)) g gm (.slice (some ⟨gl, 0, none⟩) m cap)) := Lib.hid (Kept.own_ (gset ⟨rfl, rfl, rfl, Nat.le_refl _, fun _ _ _ => rfl⟩ _ _))
  clear hq hq1 ho hh
  go_enter Try.func25, Try.ntmps25
  go_wp2_with fail
  refine HP.out.mono ?_
  rintro e w' ⟨rfl, rfl⟩
  go_wp2_with fail
  refine HF.out.mono ?_
  rintro e w2 ⟨rfl, N', hN', hq2, hk2⟩
  go_wp2_with fail
  go_ret
  exact ⟨rfl, N', hN', hq2, HK.out.trans (v1 := .slice (some ⟨gl, 0, none⟩) m cap) hk2 (.inl rfl)⟩
end Go.Proofs.Ytdkfaepmgennjaa
