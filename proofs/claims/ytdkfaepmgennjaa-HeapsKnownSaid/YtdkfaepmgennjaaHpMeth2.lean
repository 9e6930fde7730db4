/- The methods of a queue: Push, Peek, Pop. -/
import Derived.Test.YtdkfaepmgennjaaHpMeth
import Derived.Deep.QuietTactic
import Derived.BigQuiet
namespace Go.Proofs.Ytdkfaepmgennjaa
open Go.RowKit Go.Maps
open H (IT)
set_option linter.unusedSimpArgs false
set_option maxRecDepth 100000
theorem below_dn_ {B : Nat} {a w : World} (h : Below B a w) (n : Nat) : Below B a (w.drewN n) := h.trans ⟨rfl, rfl, rfl, Nat.le_refl _, fun _ _ => rfl⟩
theorem QAt.next {w : World} {g gm n N : Nat} {s v : Value} {nx : Int} {l : List IT} (h : QAt w g gm n s nx v N l) (y : Int) : QAt (w.setCell ⟨g, 1, none⟩ (.int .i64 y)) g gm n s y v N l := by
  obtain ⟨D, hD, hS⟩ := h.map
  refine ⟨heap_setCell_same w g 1 _ _ (.int .i64 y) h.row, h.own.kept (fun b hb => heap_setCell_other _ _ _ _ (fun e => h.ng (by rw [hb, e]))), ⟨D, hD.kept (row := some g) (gset ⟨rfl, rfl, rfl, Nat.le_refl _, fun _ _ _ => rfl⟩ 1 _) (fun e => h.ngm (by injection e with e; exact e.symm)), hS⟩, h.ngm, h.ng, h.nm, h.uniq, h.wf⟩
theorem QAt.slice_ {w : World} {g gm n N : Nat} {s v : Value} {nx : Int} {l : List IT} (h : QAt w g gm n s nx v N l) : ∃ A c, v = .slice A l.length c := by
  rcases h.own.some_ with ⟨rfl, rfl⟩ | ⟨gl, cap, rfl, -⟩
  · exact ⟨none, 0, rfl⟩
  · exact ⟨_, _, rfl⟩
set_option maxHeartbeats 1000000 in
theorem QPush_any (n : Nat) (ord : Int → Int → Bool) (ho : OrdN n ord) (g gm N : Nat) (v : Value) (nx : Int) (l : List IT) (va : Int) (w : World) (hq : QAt w g gm n (self g) nx v N l) (hlt : ∀ y ∈ l, y.1 < nx) (h1 : 1 ≤ nx) (h15 : nx < 1000000000000000) (hl : l.length < 5000) (hN : N + 1 + 2 * l.length < 1000000000) :
    Calls Try.prog 20 #[.pointer (some ⟨g, 0, none⟩), .int .i64 va] w fun e w' => e = .returned (.tuple #[.int .i64 nx, .int .i64 0]) ∧ ∃ v' N', N' ≤ N + 1 + 2 * l.length ∧ QAt w' g gm n (self g) (nx + 1) v' N' (H.hpush ord l (nx, va)) ∧ Kept w w' g gm v ∧ NewB w v v' := by
  obtain ⟨A, c, rfl⟩ := hq.slice_
  have HM := Lib.hid (isMade_any n g gm N _ nx l w hq)
  have HL := Lib.hid (VLen_any n g gm N l.length c A _ nx l w hq)
  have c1 : w.cell? ⟨g, 1, none⟩ = some (.int .i64 nx) := by rw [cell_of_row _ _ _ _ _ _ hq.row]; rfl
  have z1 : w.frozen? ⟨g, 1, none⟩ = false := frozen_of_row _ _ _ _ _ hq.row
  have hq1 := hq.next (nx + 1)
  have c1' : (w.setCell ⟨g, 1, none⟩ (.int .i64 (nx + 1))).cell? ⟨g, 1, none⟩ = some (.int .i64 (nx + 1)) := by rw [cell_of_row _ _ _ _ _ _ hq1.row]; rfl
  have HP := Lib.hid (HPush_any n ord ho g gm N _ _ (nx + 1) l nx va _ hq1 (WalkArith.wf_i64 (by omega)) (fun y hy => by have := hlt y hy; omega) (by omega) hN)
  have HK : Hid (Kept w (w.setCell ⟨g, 1, none⟩ (.int .i64 (nx + 1))) g gm (.slice A l.length c)) := Lib.hid (Kept.set_ _ _ _ _ _ _)
  obtain ⟨m, hm⟩ : ∃ m, l.length = m := ⟨_, rfl⟩
  rw [hm] at HL hl HK HP hN ⊢
  clear hq hq1 ho hlt hm
  have k1 : (m : Int) < 5000 := by omega
  go_enter Try.func20, Try.ntmps20
  go_wp2_with fail
  refine HM.out.mono ?_
  rintro e w' ⟨rfl, rfl⟩
  go_wp2_with fail
  refine HL.out.mono ?_
  rintro e w' ⟨rfl, rfl⟩
  go_wp2_with fail
  refine HP.out.mono ?_
  rintro e w2 ⟨rfl, v', N', hN', hq2, hk2, hv2⟩
  go_wp2_with fail
  go_ret2
  refine ⟨rfl, v', N', hN', hq2, HK.out.trans (v1 := .slice A m c) hk2 (.inl rfl), ?_⟩
  exact hv2.imp id (fun h k hk => by simpa using h k hk)
set_option maxHeartbeats 1000000 in
theorem Peek_any (n g gm gl cap m N : Nat) (nx : Int) (l : List IT) (w : World) (hq : QAt w g gm n (self g) nx (.slice (some ⟨gl, 0, none⟩) (m + 1) cap) N l) (hm : l.length = m + 1) :
    Calls Try.prog 22 #[.pointer (some ⟨g, 0, none⟩)] w fun e w' => e = .returned (.tuple #[.int .i64 (H.at_ l 0).1, .int .i64 (H.at_ l 0).2, .int .i64 0]) ∧ Below w.heap.size w w' := by
  have HM := Lib.hid (isMade_any n g gm N _ nx l w hq)
  have HL := Lib.hid (VLen_any n g gm N _ cap _ _ nx l w hq)
  have c4 : w.cell? ⟨g, 4, none⟩ = some (.slice (some ⟨gl, 0, none⟩) (m + 1) cap) := by rw [cell_of_row _ _ _ _ _ _ hq.row]; rfl
  obtain ⟨-, i0, i1⟩ := hq.own.at_ (k := 0) (by omega)
  rw [← H.at_eq (by omega)] at i0 i1
  obtain ⟨⟨h, va⟩, hx⟩ : ∃ x, H.at_ l 0 = x := ⟨_, rfl⟩
  rw [hx] at i0 i1 ⊢
  simp only [Nat.zero_mul, Nat.zero_add] at i0 i1
  have HB := Lib.hid (below_new w (.cells #[.int .i64 h, .int .i64 va] 64))
  have hne : ((m : Int) + 1 == 0) = false := by rw [beq_eq_false_iff_ne]; omega
  clear hq hm hx
  go_enter Try.func22, Try.ntmps22
  go_wp2_with fail
  refine HM.out.mono ?_
  rintro e w' ⟨rfl, rfl⟩
  go_wp2_with fail
  refine HL.out.mono ?_
  rintro e w' ⟨rfl, rfl⟩
  go_wp2_with fail
  go_quiet (fail)
  go_wp2_with fail
  go_ret3
  exact ⟨rfl, below_dn_ HB.out _⟩
theorem Peek_none (n g gm N : Nat) (nx : Int) (v : Value) (w : World) (hq : QAt w g gm n (self g) nx v N []) :
    Calls Try.prog 22 #[.pointer (some ⟨g, 0, none⟩)] w fun e w' => e = .returned (.tuple #[.int .i64 0, .int .i64 0, .int .i64 4]) ∧ w = w' := by
  obtain ⟨A, c, rfl⟩ := hq.slice_
  have HM := Lib.hid (isMade_any n g gm N _ nx _ w hq)
  have HL := Lib.hid (VLen_any n g gm N 0 c A _ nx _ w hq)
  clear hq
  go_enter Try.func22, Try.ntmps22
  go_wp2_with fail
  refine HM.out.mono ?_
  rintro e w' ⟨rfl, rfl⟩
  go_wp2_with fail
  refine HL.out.mono ?_
  rintro e w' ⟨rfl, rfl⟩
  go_wp2_with fail
  go_ret3
  exact ⟨rfl, rfl⟩
end Go.Proofs.Ytdkfaepmgennjaa
