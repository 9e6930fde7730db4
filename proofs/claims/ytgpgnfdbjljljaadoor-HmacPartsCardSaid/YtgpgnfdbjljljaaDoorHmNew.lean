/- The contracts of package hmac's innerOf, outerOf and New. -/
import Derived.Test.YtgpgnfdbjljljaaDoorHmBlk
import Derived.StillTailTactics
namespace Go.Proofs.YtgpgnfdbjljljaaDoor
open Go.RowKit
namespace M
theorem wpList_build_one {P : Program} {ops : Array Oper} {rest : List Oper} {o : Oper} {a : Act} {w : World} {Q : Exit → Act → World → Prop} (hg : o.guard = none) (t : TypeId) (i : Nat) (x : Operand) (ho : o.op = .build t #[(i, x)]) (u : Value) (hx : a.eval x = u) (cells : Array Value)
    (hf : P.built t [(i, u)] = some cells)
    (h : wpList P ops Q rest (a.put o.dst (.agg cells)) w) : wpList P ops Q (o :: rest) a w := by
  have e : ((#[(i, x)] : Array (Nat × Operand)).map fun (i, x) => (i, a.eval x)).toList = [(i, u)] := by simp [hx]
  exact wpList_build hg t #[(i, x)] ho (by rw [e, hf]; rfl) (by rw [e, hf]; exact h)
theorem inner_built (B : Nat) : Tryd.prog.built 77 [(0, .pointer (some ⟨B, 0, none⟩))] = some #[.pointer (some ⟨B, 0, none⟩)] := by kernel_rfl
theorem info_inner : (Tryd.prog.info? 77).map (·.size) = some 1 := by kernel_rfl
end M
set_option maxRecDepth 100000 in
set_option maxHeartbeats 1000000 in
theorem inner_any (l : List UInt8) (hl : l.length = 64) (w : World) (hK : S.SLaid w) :
    Calls Tryd.prog 61 #[.agg (l.map S.byteV).toArray] w fun e w' => ∃ B, e = .returned (.agg #[.pointer (some ⟨B, 0, none⟩)]) ∧ S.HashAt w' B (M.mix 54 l) ∧ Below w.heap.size w w' ∧ w.heap.size ≤ B := by
  have h2 := hK.lt.1
  have HK := Lib.hid hK
  have HPad := Lib.hid (KPad_any 54 l hl 54 rfl)
  obtain ⟨LV, HLV⟩ : ∃ LV, Hid (LV = l.map S.byteV) := ⟨_, Lib.hid rfl⟩
  have HLi := Lib.hid (show (Tryd.prog.info? 60).map (·.size) = some LV.toArray.size by rw [HLV.out, S.info_blk]; simp [hl])
  obtain ⟨X, HX⟩ : ∃ X, Hid (X = M.mix 54 l) := ⟨_, Lib.hid rfl⟩
  have HXl := Lib.hid (show X.length = 64 by rw [HX.out, M.mix_len, hl])
  have HXi := Lib.hid (show (Tryd.prog.info? 60).map (·.size) = some (X.map S.byteV).toArray.size by rw [S.info_blk]; simp [HXl.out])
  rw [← HLV.out] at HPad ⊢
  rw [← HX.out] at HPad ⊢
  clear hK hl
  go_enter Tryd.func61, Tryd.ntmps61
  go_wp2_with fail
  generalize hwx : ((w.alloc _).alloc _) = wx
  have hrow : S.Row wx w.heap.size 60 LV := by rw [← hwx]; exact ((S.Row.made _ _ _ rfl rfl).alloc _)
  have hres : S.Row wx (w.heap.size + 1) 77 [.pointer none] := by rw [← hwx]; exact S.Row.made _ _ _ (by simp) rfl
  have hb0 : Below w.heap.size w wx := by rw [← hwx]; exact (((Below.refl _ w).alloc (Nat.le_refl _) _).alloc (by simp) _)
  clear hwx
  refine (New_any _ (HK.out.below hb0 (by omega))).mono ?_
  rintro e w1 ⟨B, rfl, hh1, hb1, hB⟩
  have hrow1 := hrow.below hb1 hrow.lt
  have hres1 := hres.below hb1 hres.lt
  have hB0 : w.heap.size + 1 < B := Nat.lt_of_lt_of_le hres.lt hB
  have hb01 := hb0.trans (hb1.mono hb0.size)
  clear hrow hres hb0 hb1 hB
  go_wp2_with (refine wpList_load_row rfl 60 (.tmp 1) rfl w.heap.size rfl _ LV.toArray (0, 0) _ hrow1 Tryd.underlying60 rfl HLi.out ?_)
  refine (HPad.out _).mono ?_
  rintro e w2 ⟨rfl, hb2⟩
  have hres2 := hres1.below hb2 hres1.lt
  have hh2 := hh1.below hb2 hh1.lt
  have hb02 := hb01.trans (hb2.mono hb01.size)
  have hB2 := hh2.lt
  clear hrow1 hres1 hh1 hb2 hb01
  go_wp2_with (refine S.wpList_store_but rfl 60 (.tmp 4) (.tmp 7) rfl w2.heap.size (X.map S.byteV) rfl rfl _ _ (S.Row.made (l := List.replicate 64 (S.byteV 0)) _ _ _ rfl rfl) HXi.out (by simp [HXl.out]) (S.bvals_one _) ?_; intro w3 hr3 hbut3; have hres3 := hbut3.row (hres2.alloc _) (by omega); have hh3 := hbut3.hash (hh2.below ((Below.refl _ _).alloc (Nat.le_refl _) _) hB2) (by omega); have hb03 := (hb02.alloc hb02.size (.cells (Array.replicate 64 (S.byteV 0)) 60)).trans (hbut3.below (C := w.heap.size) hb02.size (by have := hb02.size; simp; omega)); clear hbut3 hres2 hh2 hb02)
  have hin := M.in_row hr3 (B := w3.heap.size) hr3.lt (by rw [HXl.out]; omega)
  have hwr := Write_any B [] (some ⟨w2.heap.size, 0, none⟩) _ X w3 (HK.out.below hb03 (by omega)) (by omega) hh3 hin (fun _ ad e => by injection e with e; subst e; simp; omega) (by rw [HXl.out]; simp)
  rw [HXl.out, List.nil_append] at hwr
  refine hwr.mono ?_
  rintro e w4 ⟨rfl, hh4, hbut4⟩
  have hres4 := hbut4.row hres3 (by omega)
  have hb04 := hb03.trans (hbut4.below (C := w.heap.size) (by omega) hb03.size)
  clear hwr hin hr3 hres3 hh3 hb03 hbut4
  have c0 := hres4.cell (j := 0) (v := .pointer none) rfl
  have f0 := hres4.frozen 0
  have hr9 := hres4.set 0 (.pointer (some ⟨B, 0, none⟩))
  have hh9 := (((S.But.refl (w.heap.size + 1) w4).setCell 0 none (.pointer (some ⟨B, 0, none⟩)))).hash hh4 (by omega)
  have HB9 := Lib.hid (hb04.setCell (p := ⟨w.heap.size + 1, 0, none⟩) (by simp) (.pointer (some ⟨B, 0, none⟩)))
  clear hres4 hb04
  go_wp2_with (refine M.wpList_build_one rfl 77 0 (.tmp 11) rfl _ rfl _ (M.inner_built _) ?_)
  exact bodyPost_ret (v := .agg #[.pointer (some ⟨B, 0, none⟩)]) (results_cell_row Tryd.results61 _ _ (w.heap.size + 1) _ _ _ _ rfl hr9 Tryd.underlying77 rfl M.info_inner) rfl ⟨B, rfl, hh9, HB9.out, by omega⟩
namespace M
theorem info_96 : (Tryd.prog.info? 102).map (·.size) = some 96 := by kernel_rfl
theorem first_96 {X : List UInt8} (h : X.length = 64) : splice (List.replicate 96 (S.byteV 0)) 0 (X.map S.byteV) = X.map S.byteV ++ List.replicate 32 (S.byteV 0) := by
  unfold splice
  rw [List.take_zero, List.nil_append, List.drop_replicate, List.length_map, h]
theorem second_96 {X D : List UInt8} (h : X.length = 64) (hd : D.length = 32) : splice (X.map S.byteV ++ List.replicate 32 (S.byteV 0)) 64 (D.map S.byteV) = (X ++ D).map S.byteV := by
  unfold splice
  have h1 : (X.map S.byteV).length = 64 := by simp [h]
  rw [List.take_append_of_le_length (by omega), List.take_of_length_le (by omega), List.drop_append, List.drop_eq_nil_of_le (by omega), List.nil_append, h1, List.drop_replicate, List.length_map, hd, List.map_append]
  simp
end M
set_option maxRecDepth 100000 in
set_option maxHeartbeats 1000000 in
theorem outer_any (l d : List UInt8) (hl : l.length = 64) (hd : d.length = 32) (w : World) (hK : S.SLaid w) :
    Calls Tryd.prog 63 #[.agg (l.map S.byteV).toArray, .agg (d.map S.byteV).toArray] w fun e w' => e = .returned (.agg (S.digV (M.mix 92 l ++ d)).toArray) ∧ Below w.heap.size w w' := by
  have h2 := hK.lt.1
  have HK := Lib.hid hK
  have HPad := Lib.hid (KPad_any 92 l hl 92 rfl)
  obtain ⟨LV, HLV⟩ : ∃ LV, Hid (LV = l.map S.byteV) := ⟨_, Lib.hid rfl⟩
  have HLi := Lib.hid (show (Tryd.prog.info? 60).map (·.size) = some LV.toArray.size by rw [HLV.out, S.info_blk]; simp [hl])
  obtain ⟨X, HX⟩ : ∃ X, Hid (X = M.mix 92 l) := ⟨_, Lib.hid rfl⟩
  have HXl := Lib.hid (show X.length = 64 by rw [HX.out, M.mix_len, hl])
  have HXi := Lib.hid (show (Tryd.prog.info? 60).map (·.size) = some (X.map S.byteV).toArray.size by rw [S.info_blk]; simp [HXl.out])
  rw [← HLV.out] at HPad ⊢
  rw [← HX.out] at HPad ⊢
  have HD := Lib.hid hd
  obtain ⟨R, HR⟩ : ∃ R, Hid (R = S.digV (X ++ d)) := ⟨_, Lib.hid rfl⟩
  have HRl := Lib.hid (show R.length = 32 by rw [HR.out, S.digV_len])
  have HRi := Lib.hid (show (Tryd.prog.info? 22).map (·.size) = some R.toArray.size by rw [HR.out]; exact S.digV_info _)
  have HR1 := Lib.hid (show R.toArray.all (·.oneCell') = true by rw [HR.out]; exact S.digV_one _)
  rw [← HR.out]
  clear hK hl hd
  go_enter Tryd.func63, Tryd.ntmps63
  go_wp2_with (refine wpList_load_row rfl 60 (.tmp 2) rfl w.heap.size rfl _ LV.toArray (0, 0) _ ((((S.Row.new w _ _).alloc _).alloc _).alloc _) Tryd.underlying60 rfl HLi.out ?_)
  generalize hwx : ((((w.alloc _).alloc _).alloc _).alloc _) = wx
  have hdig : S.Row wx (w.heap.size + 1) 22 (d.map S.byteV) := by rw [← hwx]; exact (((S.Row.made _ _ _ (by simp) rfl).alloc _).alloc _)
  have hres : S.Row wx (w.heap.size + 2) 22 (List.replicate 32 (S.byteV 0)) := by rw [← hwx]; exact ((S.Row.made _ _ _ (by simp) rfl).alloc _)
  have hbuf : S.Row wx (w.heap.size + 3) 102 (List.replicate 96 (S.byteV 0)) := by rw [← hwx]; exact S.Row.made _ _ _ (by simp) rfl
  have hb0 : Below w.heap.size w wx := by rw [← hwx]; exact (((((Below.refl _ w).alloc (Nat.le_refl _) _).alloc (by simp) _).alloc (by simp; omega) _).alloc (by simp; omega) _)
  clear hwx
  refine (HPad.out _).mono ?_
  rintro e w1 ⟨rfl, hb1⟩
  have hdig1 := hdig.below hb1 hdig.lt
  have hres1 := hres.below hb1 hres.lt
  have hbuf1 := hbuf.below hb1 hbuf.lt
  have hb01 := hb0.trans (hb1.mono hb0.size)
  clear hdig hres hbuf hb0 hb1
  have hb3 := hbuf1.lt
  go_wp2_with (refine S.wpList_store_but rfl 60 (.tmp 6) (.tmp 9) rfl w1.heap.size (X.map S.byteV) rfl rfl _ _ (S.Row.made (l := List.replicate 64 (S.byteV 0)) _ _ _ rfl rfl) HXi.out (by simp [HXl.out]) (S.bvals_one _) ?_; intro w2 hr2 hbut2; have hdig2 := hbut2.row (hdig1.alloc _) (by omega); have hres2 := hbut2.row (hres1.alloc _) (by omega); have hbuf2 := hbut2.row (hbuf1.alloc _) (by omega); have hb02 := (hb01.alloc hb01.size (.cells (Array.replicate 64 (S.byteV 0)) 60)).trans (hbut2.below (C := w.heap.size) hb01.size (by have := hb01.size; simp; omega)); clear hbut2 hdig1 hres1 hbuf1 hb01)
  refine wp_region_still_tail 2 (by kernel_rfl) (by kernel_rfl) ?_
  simp only [List.take_succ_cons, List.take_zero, List.drop_succ_cons, List.drop_zero]
  repeat still_step
  refine wpStill_nil ?_
  change wpList _ _ _ _ _ w2.drew
  have hdig2' : S.Row w2.drew (w.heap.size + 1) 22 (d.map S.byteV) := hdig2
  have hres2' : S.Row w2.drew (w.heap.size + 2) 22 (List.replicate 32 (S.byteV 0)) := hres2
  have hbuf2' : S.Row w2.drew (w.heap.size + 3) 102 (List.replicate 96 (S.byteV 0)) := hbuf2
  have hr2' : S.Row w2.drew w1.heap.size 60 (X.map S.byteV) := hr2
  have hb02' : Below w.heap.size w w2.drew := hb02.drew
  generalize w2.drew = w3 at hdig2' hres2' hbuf2' hr2' hb02' ⊢
  clear hdig2 hres2 hbuf2 hr2 hb02
  have HF1 := Lib.hid (M.first_96 HXl.out)
  have HF2 := Lib.hid (M.second_96 HXl.out HD.out)
  have HXc := Lib.hid (show X.length ≤ 1000 by rw [HXl.out]; omega)
  have HDc := Lib.hid (show d.length ≤ 1000 by rw [HD.out]; omega)
  have hinX : BytesIn w3 (w1.heap.size + 1) (some ⟨w1.heap.size, 0, none⟩) 64 X := by have := M.in_row hr2' (Nat.lt_succ_self _) HXc.out; rwa [HXl.out] at this
  clear hr2'
  go_wp2_with (refine M.copy_in rfl (.tmp 10) (.tmp 11) rfl (w.heap.size + 3) 0 96 96 64 (some ⟨w1.heap.size, 0, none⟩) 64 X _ HXl.out.symm rfl rfl (List.replicate 96 (S.byteV 0)) 102 hbuf2' hinX (by rw [HXl.out]; omega) (by rw [HXl.out]; simp) ?_; intro w4 hbuf4 hbut4; rw [HF1.out] at hbuf4)
  have hdig4 := hbut4.row hdig2' (by omega)
  have hres4 := hbut4.row hres2' (by omega)
  have hb04 := hb02'.trans (hbut4.below (C := w.heap.size) (by omega) hb02'.size)
  clear hdig2' hres2' hbuf2' hb02' hinX hbut4
  have s1 : ∀ W, (Instr.sliceAt 102 (.pointer (some ⟨w.heap.size + 1 + 1 + 1, 0, none⟩)) (some (.int .i64 64)) none none).run Tryd.prog W = .ok (.slice (some ⟨w.heap.size + 3, 64, none⟩) 32 32) W := fun W => by
    have := S.run_slice_part (P := Tryd.prog) W 102 5 (w.heap.size + 1 + 1 + 1) 0 96 64 64 Tryd.underlying102 S.info_byte rfl (by omega)
    simpa using this
  refine wp_region_still_tail 3 (by kernel_rfl) (by kernel_rfl) ?_
  simp only [List.take_succ_cons, List.take_zero, List.drop_succ_cons, List.drop_zero]
  repeat still_step
  refine wpStill_nil ?_
  change wpList _ _ _ _ _ w4.drew
  have hdig4' : S.Row w4.drew (w.heap.size + 1) 22 (d.map S.byteV) := hdig4
  have hres4' : S.Row w4.drew (w.heap.size + 2) 22 (List.replicate 32 (S.byteV 0)) := hres4
  have hbuf4' : S.Row w4.drew (w.heap.size + 3) 102 (X.map S.byteV ++ List.replicate 32 (S.byteV 0)) := hbuf4
  have hb04' : Below w.heap.size w w4.drew := hb04.drew
  generalize w4.drew = w5 at hdig4' hres4' hbuf4' hb04' ⊢
  clear hdig4 hres4 hbuf4 hb04 s1
  have hinD : BytesIn w5 (w.heap.size + 1 + 1) (some ⟨w.heap.size + 1, 0, none⟩) 32 d := by have := M.in_row hdig4' (Nat.lt_succ_self _) HDc.out; rwa [HD.out] at this
  have HFit := Lib.hid (show 64 + d.length ≤ (X.map S.byteV ++ List.replicate 32 (S.byteV 0)).length by simp [HXl.out, HD.out])
  go_wp2_with (refine M.copy_in rfl (.tmp 14) (.tmp 15) rfl (w.heap.size + 3) 64 32 32 32 (some ⟨w.heap.size + 1, 0, none⟩) 32 d _ HD.out.symm rfl rfl _ 102 hbuf4' hinD (by rw [HD.out]; omega) HFit.out ?_; intro w6 hbuf6 hbut6; rw [HF2.out] at hbuf6; have hres6 := hbut6.row hres4' (by omega); have hb06 := hb04'.trans (hbut6.below (C := w.heap.size) (by omega) hb04'.size); clear hinD hbut6 hdig4' hres4' hbuf4' hb04')
  have HXD := Lib.hid (show (X ++ d).length = 96 by rw [List.length_append, HXl.out, HD.out])
  have hin := M.in_row hbuf6 hbuf6.lt (by rw [HXD.out]; omega)
  have hsum := Sum_any _ _ (X ++ d) w6 (HK.out.below hb06 (by omega)) hin (by rw [HXD.out]; omega)
  rw [HXD.out, ← HR.out] at hsum
  refine hsum.mono ?_
  rintro e w7 ⟨rfl, hb7⟩
  have hres7 := hres6.below hb7 hres6.lt
  have HB7 := Lib.hid (hb06.trans (hb7.mono hb06.size))
  clear hsum hin hbuf6 hres6 hb7 hb06
  go_wp2_with (refine S.wpList_store_but rfl 22 (.tmp 4) (.tmp 18) rfl (w.heap.size + 2) R rfl rfl _ _ hres7 HRi.out (by rw [HRl.out]; rfl) HR1.out ?_; intro w9 hr9 hbut9)
  exact bodyPost_ret (v := .agg R.toArray) (results_cell_row Tryd.results63 _ _ (w.heap.size + 2) _ _ _ _ rfl hr9 Tryd.underlying22 rfl HRi.out) rfl ⟨rfl, HB7.out.trans (hbut9.below (by omega) HB7.out.size)⟩
end Go.Proofs.YtgpgnfdbjljljaaDoor
