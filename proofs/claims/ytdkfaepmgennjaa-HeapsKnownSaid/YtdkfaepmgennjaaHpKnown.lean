/- HeapsKnown. -/
import Derived.Test.YtdkfaepmgennjaaHpWalk
import Derived.Test.YtdkfaepmgennjaaHpAwake
import Derived.Test.YtdkfaepmgennjaaHpSorted
import Derived.Test.YtdkfaepmgennjaaHpRSame
namespace Go.Proofs.Ytdkfaepmgennjaa
open Go.RowKit Go.Maps
open H (IT)
set_option linter.unusedSimpArgs false
set_option maxRecDepth 100000
theorem placeOf_gone (n g gm N : Nat) (v : Value) (nx : Int) (l : List IT) (w : World) (hq : QAt w g gm n (self g) nx v N l) (h : Int) (hh : ∀ x ∈ l, x.1 ≠ h) (hw : (Lit.int .i64 h).wf = true) :
    Calls Try.prog 53 #[.pointer (some ⟨g, 0, none⟩), .int .i64 h] w fun e w' => e = .returned (.tuple #[.int .i64 0, .int .i64 4]) ∧ w = w' := by
  have H1 := Lib.hid (isMade_any n g gm N _ nx l w hq)
  have c5 : w.cell? ⟨g, 5, none⟩ = some (.map (some gm)) := by rw [cell_of_row _ _ _ _ _ _ hq.row]; rfl
  obtain ⟨D, hD, hS⟩ := hq.map
  have hat := hS.no h hh
  have zeroE : ∀ w : World, (zeroValue 3).run Try.prog w = .ok (.int .i64 0) w := fun w => by kernel_rfl
  obtain ⟨x, ps, hrun, hv⟩ := hD.look_ok (t := 43) lawK Try.underlying43 (zeroE w) (plainElem_int (H := Unit) Try.underlying3 (by decide)) (keyOf_int_mk Try.underlying2 hw)
  rw [hat] at hv
  rw [has_false_of_atKey hat] at hrun
  clear hq hD hS hw hat hv zeroE
  go_enter Try.func53, Try.ntmps53
  go_wp2_with fail
  refine H1.out.mono ?_
  rintro e w' ⟨rfl, rfl⟩
  go_wp2_with fail
  go_ret2
  exact ⟨rfl, rfl⟩
theorem QGet_gone (n g gm N : Nat) (v : Value) (nx : Int) (l : List IT) (w : World) (hq : QAt w g gm n (self g) nx v N l) (h : Int) (hh : ∀ x ∈ l, x.1 ≠ h) (hw : (Lit.int .i64 h).wf = true) :
    Calls Try.prog 23 #[.pointer (some ⟨g, 0, none⟩), .int .i64 h] w fun e w' => e = .returned (.tuple #[.int .i64 0, .int .i64 4]) ∧ w = w' := by
  have H1 := Lib.hid (placeOf_gone n g gm N v nx l w hq h hh hw)
  clear hq hh hw
  go_enter Try.func23, Try.ntmps23
  go_wp2_with fail
  refine H1.out.mono ?_
  rintro e w' ⟨rfl, rfl⟩
  go_wp2_with fail
  go_ret2
  exact ⟨rfl, rfl⟩
/-- The literal that the law compares with. -/
theorem lit_sp (w : World) : SpIn (w.alloc (.cells #[.int .i64 1, .int .i64 3, .int .i64 2, .int .i64 3, .int .i64 3, .int .i64 3] 64)) (w.heap.size + 1) (some ⟨w.heap.size, 0, none⟩) 3 H.l2 := by
  have hb := World.alloc_heap_new w (.cells #[.int .i64 1, .int .i64 3, .int .i64 2, .int .i64 3, .int .i64 3, .int .i64 3] 64)
  refine ⟨by decide, by unfold maxLen; omega, fun e => (by cases e), fun ad e k hk => ?_, fun s _ => ⟨trivial, trivial⟩⟩
  obtain rfl := Option.some.inj e
  have hk3 : k < 3 := hk
  rcases k with _ | _ | _ | k
  · exact ⟨Nat.lt_succ_self _, by show World.cell? _ ⟨w.heap.size, 0, none⟩ = _; rw [cell_of_row _ _ _ _ _ _ hb]; rfl, by show World.cell? _ ⟨w.heap.size, 1, none⟩ = _; rw [cell_of_row _ _ _ _ _ _ hb]; rfl⟩
  · exact ⟨Nat.lt_succ_self _, by show World.cell? _ ⟨w.heap.size, 2, none⟩ = _; rw [cell_of_row _ _ _ _ _ _ hb]; rfl, by show World.cell? _ ⟨w.heap.size, 3, none⟩ = _; rw [cell_of_row _ _ _ _ _ _ hb]; rfl⟩
  · exact ⟨Nat.lt_succ_self _, by show World.cell? _ ⟨w.heap.size, 4, none⟩ = _; rw [cell_of_row _ _ _ _ _ _ hb]; rfl, by show World.cell? _ ⟨w.heap.size, 5, none⟩ = _; rw [cell_of_row _ _ _ _ _ _ hb]; rfl⟩
  · omega
set_option maxHeartbeats 4000000 in
theorem HeapsKnown_walk (w : World) : Calls Try.prog 9 #[] w fun e w' => e = .returned (.bool true) ∧ Below w.heap.size w w' := by
  have HT := Lib.hid (three_any w)
  go_enter Try.func9, Try.ntmps9
  go_wp2_with fail
  refine HT.out.mono ?_
  rintro e w2 ⟨g, gm, v, N, rfl, hq2, hN⟩
  obtain ⟨gl, cap, rfl⟩ := hq2.some_ (m := 2) rfl
  have HS := Lib.hid (QSet_any _ H.less less_any g gm gl cap 3 N 4 (H.three 3) 1 1 3 w2 hq2.at_ rfl (by decide) rfl (by omega) (by omega))
  have HQ2 := Lib.hid hq2
  clear HT hq2
  go_wp2_with fail
  refine HS.out.mono ?_
  rintro e w3 ⟨rfl, N3, hN3, hq3, hk3⟩
  have hQ3 : QB w w3 g gm _ 4 _ N3 H.l2 := HQ2.out.step (by rw [show H.l2 = H.mend H.less ((H.three 3).set 1 (1, 3)) 1 3 from by decide]; exact hq3) hk3 (.inl rfl)
  have HW := Lib.hid (walked_any _ H.less less_any g gm gl cap 3 N3 4 H.l2 w3 hQ3.at_ rfl (by omega) (by omega))
  rw [show H.isort H.less 3 H.l2 = H.l2 from by decide] at HW
  have HQ3 := Lib.hid hQ3
  clear HS HQ2 hq3 hk3 hQ3
  go_wp2_with fail
  refine HW.out.mono ?_
  rintro e w4 ⟨v4, rfl, hown4, hb4⟩
  obtain ⟨g4, cap4, rfl⟩ : ∃ g4 cap4, v4 = .slice (some ⟨g4, 0, none⟩) 3 cap4 := by
    rcases (OwnIt.ofSp hown4).some_ with ⟨_, h0⟩ | ⟨gl, cap, h0, -⟩
    · cases h0
    · exact ⟨gl, cap, h0⟩
  have hs4 : SpIn w4 w4.heap.size (some ⟨g4, 0, none⟩) cap4 H.l2 := OwnIt.sp (OwnIt.ofSp hown4)
  have hQ4 : QB w w4 g gm _ 4 _ N3 H.l2 := HQ3.out.below hb4
  have hba := below_new w4 (.cells #[.int .i64 1, .int .i64 3, .int .i64 2, .int .i64 3, .int .i64 3, .int .i64 3] 64)
  have HSm := Lib.hid (RSame_eq _ _ cap4 3 3 H.l2 _ (hs4.on hba) (by rw [World.size_alloc]; exact lit_sp w4) rfl)
  have HQ4 := Lib.hid (hQ4.below hba)
  clear HW HQ3 hQ4 hs4 hba hown4 hb4
  go_wp2_with fail
  refine HSm.out.mono ?_
  rintro e w5 ⟨rfl, hb5⟩
  have hQ5 := HQ4.out.below hb5
  have HR := Lib.hid (show Calls Try.prog 24 #[.pointer (some ⟨g, 0, none⟩), .int .i64 2] w5 _ from QRemove_any _ H.less less_any g gm gl cap 2 N3 4 H.l2 1 2 w5 hQ5.at_ rfl (by decide) rfl (by omega) (by omega))
  rw [show (H.at_ (H.pre H.less H.l2 1) 2).2 = 3 from by decide, show H.hrem H.less H.l2 1 = H.l3 from by decide] at HR
  have HQ5 := Lib.hid hQ5
  clear HSm HQ4 hb5 hQ5
  go_wp2_with fail
  refine HR.out.mono ?_
  rintro e w6 ⟨rfl, N6, hN6, hq6, hk6⟩
  have hQ6 : QB w w6 g gm _ 4 _ N6 H.l3 := HQ5.out.step hq6 hk6 (.inl rfl)
  have HO := Lib.hid (show Calls Try.prog 21 #[.pointer (some ⟨g, 0, none⟩)] w6 _ from QPop_any _ H.less less_any g gm gl cap 1 N6 4 H.l3 w6 hQ6.at_ rfl (by omega) (by omega))
  rw [show (H.at_ H.l3 0).1 = 1 from by decide, show (H.at_ (H.pre H.less H.l3 0) 1).2 = 3 from by decide, show H.hrem H.less H.l3 0 = H.l4 from by decide] at HO
  have HQ6 := Lib.hid hQ6
  clear HR HQ5 hq6 hk6 hQ6
  go_wp2_with fail
  refine HO.out.mono ?_
  rintro e w7 ⟨rfl, N7, hN7, hq7, hk7⟩
  have hQ7 : QB w w7 g gm _ 4 _ N7 H.l4 := HQ6.out.step hq7 hk7 (.inl rfl)
  have HO := Lib.hid (show Calls Try.prog 21 #[.pointer (some ⟨g, 0, none⟩)] w7 _ from QPop_any _ H.less less_any g gm gl cap 0 N7 4 H.l4 w7 hQ7.at_ rfl (by omega) (by omega))
  rw [show (H.at_ H.l4 0).1 = 3 from by decide, show (H.at_ (H.pre H.less H.l4 0) 0).2 = 3 from by decide, show H.hrem H.less H.l4 0 = [] from by decide] at HO
  have HQ7 := Lib.hid hQ7
  clear HQ6 hq7 hk7 hQ7
  go_wp2_with fail
  refine HO.out.mono ?_
  rintro e w8 ⟨rfl, N8, hN8, hq8, hk8⟩
  have hQ8 : QB w w8 g gm _ 4 _ N8 [] := HQ7.out.step hq8 hk8 (.inl rfl)
  have HE := Lib.hid (QPop_none _ g gm N8 4 _ w8 hQ8.at_)
  have HU := Lib.hid (QPush_any _ H.less less_any g gm N8 _ 4 [] 9 w8 hQ8.at_ (by simp) (by omega) (by omega) (by simp) (by simp; omega))
  have HQ8 := Lib.hid hQ8
  clear HO HQ7 hq8 hk8 hQ8
  go_wp2_with fail
  refine HE.out.mono ?_
  rintro e w' ⟨rfl, rfl⟩
  go_wp2_with fail
  refine HU.out.mono ?_
  rintro e w9 ⟨rfl, v9, N9, hN9, hq9, hk9, hn9⟩
  have hQ9 : QB w w9 g gm _ (4 + 1) v9 N9 [(4, 9)] := HQ8.out.step (by rw [show [(4, 9)] = H.hpush H.less [] (4, 9) from by decide]; exact hq9) hk9 hn9
  have HG := Lib.hid (QGet_gone _ g gm N9 v9 _ [(4, 9)] w9 hQ9.at_ 1 (by decide) (by decide))
  have HA := Lib.hid (awake_any w9)
  have HB := Lib.hid hQ9.bel
  have HZ := Lib.hid hQ9.bel.size
  clear HE HU HQ8 hq9 hk9 hn9 hQ9
  go_wp2_with fail
  refine HG.out.mono ?_
  rintro e w' ⟨rfl, rfl⟩
  go_wp2_with fail
  refine HA.out.mono ?_
  rintro e w10 ⟨rfl, hb10⟩
  have HF := Lib.hid (bt HB.out HZ.out hb10)
  clear hb10 HB HZ
  go_wp2_with fail
  go_ret
  exact ⟨rfl, HF.out⟩
end Go.Proofs.Ytdkfaepmgennjaa
