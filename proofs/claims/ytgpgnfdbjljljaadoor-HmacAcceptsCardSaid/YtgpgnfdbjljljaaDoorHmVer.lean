/- The contracts of package hmac's check, Verify, Tag, and of a mac's Verify and Reset. -/
import Derived.Test.YtgpgnfdbjljljaaDoorHmMeth
namespace Go.Proofs.YtgpgnfdbjljljaaDoor
open Go.RowKit
theorem BytesIn.apart {w : World} {C H : Nat} {A : Option Addr} {c : Nat} {l : List UInt8} (h : BytesIn w C A c l) (hH : C ≤ H) (h0 : 0 < l.length) : ∀ ad, A = some ad → ad.block ≠ H := by
  intro ad e
  obtain ⟨x, t, rfl⟩ := List.exists_cons_of_ne_nil (List.ne_nil_of_length_pos h0)
  have := (h.cells ad e 0 x rfl).1
  omega
set_option maxRecDepth 100000 in
set_option maxHeartbeats 1000000 in
theorem check_any (d : List UInt8) (hd : d.length = 32) (A : Option Addr) (c : Nat) (t : List UInt8) (w : World) (hin : BytesIn w w.heap.size A c t) (hlen : t.length ≤ 1000000) :
    Calls Tryd.prog 60 #[.agg (d.map S.byteV).toArray, .slice A t.length c] w fun e w' => e = .returned (.int .i64 (M.code (decide (d = t)))) ∧ Below w.heap.size w w' := by
  have hb0 : Below w.heap.size w (w.alloc (.cells (d.map S.byteV).toArray 22)) := (Below.refl _ _).alloc (Nat.le_refl _) _
  have hrow : S.Row (w.alloc (.cells (d.map S.byteV).toArray 22)) w.heap.size 22 (d.map S.byteV) := S.Row.made _ _ _ rfl rfl
  have hE := Equal_any _ A _ c d t _ (M.in_row hrow hrow.lt (by omega)) ((hin.below hb0).more (by simp)) (by omega) (by omega)
  rw [hd] at hE
  have HE := Lib.hid hE
  have HB0 := Lib.hid hb0
  obtain ⟨b, HBo⟩ : ∃ b, Hid (b = decide (d = t)) := ⟨_, Lib.hid rfl⟩
  rw [← HBo.out] at HE ⊢
  obtain ⟨N, HN⟩ : ∃ N, Hid (N = t.length) := ⟨_, Lib.hid rfl⟩
  rw [← HN.out] at HE ⊢
  obtain ⟨D, HD⟩ : ∃ D, Hid (D = d.map S.byteV) := ⟨_, Lib.hid rfl⟩
  rw [← HD.out] at HE HB0 ⊢
  clear hrow hE hb0 hin hlen
  cases b
  all_goals
    go_enter Tryd.func60, Tryd.ntmps60
    go_wp2_with fail
    refine HE.out.mono ?_
    rintro e w1 ⟨rfl, hb1⟩
    have HB1 := Lib.hid (HB0.out.trans (hb1.mono (by simp)))
    clear hb1
    go_wp2_with fail
    go_ret
    exact ⟨rfl, HB1.out⟩
set_option maxRecDepth 100000 in
set_option maxHeartbeats 1000000 in
theorem MVerify_any (B H : Nat) (blk l : List UInt8) (A : Option Addr) (c : Nat) (t : List UInt8) (w : World) (hK : S.SLaid w) (hm : M.MacAt w B H blk l) (hin : BytesIn w w.heap.size A c t) (hlen : l.length ≤ 1000000) (ht : t.length ≤ 1000000) :
    Calls Tryd.prog 42 #[.pointer (some ⟨B, 0, none⟩), .slice A t.length c] w fun e w' => e = .returned (.int .i64 (M.code (decide (M.tagOf blk l = t)))) ∧ Below w.heap.size w w' := by
  have HTg := Lib.hid (MTag_any B H blk l w hK hm (by omega))
  have HC := Lib.hid (fun w hi => check_any (M.tagOf blk l) (M.tagOf_len _ _) A c t w hi ht)
  obtain ⟨r, HR⟩ : ∃ r, Hid (r = M.code (decide (M.tagOf blk l = t))) := ⟨_, Lib.hid rfl⟩
  rw [← HR.out] at HC ⊢
  obtain ⟨N, HN⟩ : ∃ N, Hid (N = t.length) := ⟨_, Lib.hid rfl⟩
  rw [← HN.out] at HC ⊢
  obtain ⟨D, HD⟩ : ∃ D, Hid (D = (M.tagOf blk l).map S.byteV) := ⟨_, Lib.hid rfl⟩
  have HDl := Lib.hid (show D.length = 32 by rw [HD.out, List.length_map, M.tagOf_len])
  have HDi := Lib.hid (show (Tryd.prog.info? 22).map (·.size) = some D.toArray.size by rw [S.info_d32]; simp [HDl.out])
  have HD1 := Lib.hid (show D.toArray.all (·.oneCell') = true by rw [HD.out]; exact S.bvals_one _)
  rw [← HD.out] at HC HTg
  have HI := Lib.hid hin
  clear hK hm hin hlen ht
  go_enter Tryd.func42, Tryd.ntmps42
  go_wp2_with fail
  refine HTg.out.mono ?_
  rintro e w1 ⟨rfl, hb1⟩
  go_wp2_with (first
    | (refine S.wpList_store_but rfl 22 (.tmp 5) (.tmp 10) rfl w1.heap.size D rfl rfl _ _ (S.Row.made (l := List.replicate 32 (S.byteV 0)) _ _ _ rfl rfl) HDi.out (by rw [HDl.out]; rfl) HD1.out ?_; intro w2 hr2 hbut2; have hb02 := (hb1.alloc hb1.size (.cells (Array.replicate 32 (S.byteV 0)) 22)).trans (hbut2.below (C := w.heap.size) hb1.size (by have := hb1.size; simp; omega)); clear hbut2 hb1)
    | (refine wpList_load_row rfl 22 (.tmp 5) rfl w1.heap.size rfl _ D.toArray (0, 0) _ hr2 Tryd.underlying22 rfl HDi.out ?_))
  refine (HC.out _ ((HI.out.below hb02).more hb02.size)).mono ?_
  rintro e w3 ⟨rfl, hb3⟩
  have HB3 := Lib.hid (hb02.trans (hb3.mono hb02.size))
  clear hb3 hb02 hr2
  go_wp2_with fail
  go_ret
  exact ⟨rfl, HB3.out⟩
set_option maxRecDepth 100000 in
set_option maxHeartbeats 1000000 in
theorem MReset_any (B H : Nat) (blk l : List UInt8) (w : World) (hK : S.SLaid w) (hm : M.MacAt w B H blk l) :
    Calls Tryd.prog 44 #[.pointer (some ⟨B, 0, none⟩)] w fun e w' => ∃ H', e = .returned (.int .i64 0) ∧ M.MacAt w' B H' blk [] ∧ S.But B w w' ∧ w.heap.size ≤ H' := by
  have hBl := hm.row.lt
  have HIn := Lib.hid (inner_any blk hm.len w hK)
  obtain ⟨BV, HBV⟩ : ∃ BV, Hid (BV = blk.map S.byteV) := ⟨_, Lib.hid rfl⟩
  have HBi := Lib.hid (show (Tryd.prog.info? 60).map (·.size) = some BV.toArray.size by rw [HBV.out, S.info_blk]; simp [hm.len])
  have HBc := Lib.hid hm.blk
  rw [← HBV.out] at HIn HBc
  clear hK
  go_enter Tryd.func44, Tryd.ntmps44
  go_wp2_with fail
  refine (MMade_yes B H blk l _ hm).mono ?_
  rintro e w' ⟨rfl, rfl⟩
  go_wp2_with (refine S.wpList_load_part rfl 60 (.tmp 9) rfl B 2 rfl BV.toArray _ HBc.out Tryd.underlying60 rfl HBi.out ?_)
  refine HIn.out.mono ?_
  rintro e w2 ⟨G, rfl, hh2, hb2, hG⟩
  have hrow2 := hm.row.below hb2 hBl
  have HL := Lib.hid hm.len
  have hGB : G ≠ B := by omega
  have c0 := hrow2.cell (j := 0) (v := .pointer (some ⟨H, 0, none⟩)) rfl
  have f0 := hrow2.frozen 0
  have hrow3 := hrow2.set 0 (.pointer (some ⟨G, 0, none⟩))
  have hh3 := (((S.But.refl B w2).setCell 0 none (.pointer (some ⟨G, 0, none⟩)))).hash hh2 hGB
  have HB4 := Lib.hid ((S.But.of_below (B := B) hb2).setCell 0 none (.pointer (some ⟨G, 0, none⟩)))
  clear hrow2 hh2 hm hb2
  go_wp2_with fail
  go_ret
  exact ⟨G, rfl, ⟨HL.out, hGB, hrow3, by rw [List.append_nil]; exact hh3⟩, HB4.out, hG⟩
set_option maxRecDepth 100000 in
set_option maxHeartbeats 1000000 in
theorem HTag_any (A A2 : Option Addr) (c c2 : Nat) (key b : List UInt8) (w : World) (hK : S.SLaid w) (hin : BytesIn w w.heap.size A c key) (hin2 : BytesIn w w.heap.size A2 c2 b) (hlen : key.length ≤ 100000) (hlen2 : b.length ≤ 100000) :
    Calls Tryd.prog 34 #[.slice A key.length c, .slice A2 b.length c2] w fun e w' => e = .returned (.agg ((M.tag key b).map S.byteV).toArray) ∧ Below w.heap.size w w' := by
  have h2 := hK.lt.1
  have HK := Lib.hid hK
  have HNew := Lib.hid (fun w hw hi => MNew_any A c key w hw hi (by omega))
  have HI := Lib.hid hin
  have HI2 := Lib.hid hin2
  obtain ⟨N, HN⟩ : ∃ N, Hid (N = key.length) := ⟨_, Lib.hid rfl⟩
  rw [← HN.out] at HNew ⊢
  obtain ⟨K, HKk⟩ : ∃ K, Hid (K = b.length) := ⟨_, Lib.hid rfl⟩
  have HWr := Lib.hid (fun B H w hw hH hm hi hne => MWrite_any B H (M.block key) [] A2 c2 b w hw hH hm hi hne (by simp; omega))
  rw [← HKk.out] at HWr ⊢
  have HTg := Lib.hid (fun B H w hw hm => MTag_any B H (M.block key) b w hw hm (by omega))
  obtain ⟨D, HD⟩ : ∃ D, Hid (D = (M.tag key b).map S.byteV) := ⟨_, Lib.hid rfl⟩
  have HDl := Lib.hid (show D.length = 32 by rw [HD.out, List.length_map, M.tag_len])
  have HDi := Lib.hid (show (Tryd.prog.info? 22).map (·.size) = some D.toArray.size by rw [S.info_d32]; simp [HDl.out])
  have HD1 := Lib.hid (show D.toArray.all (·.oneCell') = true by rw [HD.out]; exact S.bvals_one _)
  rw [← HD.out]
  have HTE := Lib.hid (show (M.tagOf (M.block key) b).map S.byteV = D from HD.out.symm)
  rw [HTE.out] at HTg
  clear hK hin hin2 hlen hlen2
  go_enter Tryd.func34, Tryd.ntmps34
  go_wp2_with fail
  have hb0 : Below w.heap.size w (w.alloc (.cells (Array.replicate 32 (S.byteV 0)) 22)) := (Below.refl _ _).alloc (Nat.le_refl _) _
  have hres0 : S.Row (w.alloc (.cells (Array.replicate 32 (S.byteV 0)) 22)) w.heap.size 22 (List.replicate 32 (S.byteV 0)) := S.Row.made _ _ _ rfl rfl
  refine (HNew.out _ (HK.out.below hb0 (by omega)) ((HI.out.below hb0).more (by simp))).mono ?_
  rintro e w1 ⟨B, H, rfl, hm1, hb1, hB, hH⟩
  have hB0 : w.heap.size < B := by have := hB; simp at this; omega
  have hH0 : w.heap.size < H := by have := hH; simp at this; omega
  have hres1 := hres0.below hb1 hres0.lt
  have hb01 := hb0.trans (hb1.mono (by simp))
  clear hb0 hb1 hres0 hB hH HNew HI
  go_wp2_with fail
  have hin1 := (HI2.out.below hb01)
  refine (HWr.out B H _ (HK.out.below hb01 (by omega)) (by omega) hm1 (hin1.more hb01.size) (fun h0 => hin1.apart (C := w.heap.size) (by omega) (by rw [← HKk.out]; exact h0))).mono ?_
  rintro e w2 ⟨rfl, hm2, hbut2⟩
  rw [List.nil_append] at hm2
  have hres2 := hbut2.row hres1 (by omega)
  have hb02 := hb01.trans (hbut2.below (C := w.heap.size) (by omega) hb01.size)
  clear hm1 hres1 hb01 hin1 hbut2 HWr HI2
  go_wp2_with fail
  refine (HTg.out B H _ (HK.out.below hb02 (by omega)) hm2).mono ?_
  rintro e w3 ⟨rfl, hb3⟩
  have hres3 := hres2.below hb3 hres2.lt
  have hb03 := hb02.trans (hb3.mono hb02.size)
  clear hm2 hres2 hb02 hb3 HTg
  go_wp2_with (first
    | (refine S.wpList_store_but rfl 22 (.tmp 6) (.tmp 16) rfl w3.heap.size D rfl rfl _ _ (S.Row.made (l := List.replicate 32 (S.byteV 0)) _ _ _ rfl rfl) HDi.out (by rw [HDl.out]; rfl) HD1.out ?_; intro w4 hr4 hbut4; have hres4 := hbut4.row (hres3.alloc _) (by have := hres3.lt; omega); have HB4 := Lib.hid ((hb03.alloc hb03.size (.cells (Array.replicate 32 (S.byteV 0)) 22)).trans (hbut4.below (C := w.heap.size) hb03.size (by have := hb03.size; simp; omega))); clear hbut4 hres3 hb03)
    | (refine wpList_load_row rfl 22 (.tmp 6) rfl w3.heap.size rfl _ D.toArray (0, 0) _ hr4 Tryd.underlying22 rfl HDi.out ?_)
    | (refine S.wpList_store_but rfl 22 (.tmp 4) (.tmp 18) rfl w.heap.size D rfl rfl _ _ hres4 HDi.out (by rw [HDl.out]; rfl) HD1.out ?_; intro w9 hr9 hbut9))
  exact bodyPost_ret (v := .agg D.toArray) (results_cell_row Tryd.results34 _ _ w.heap.size _ _ _ _ rfl hr9 Tryd.underlying22 rfl HDi.out) rfl ⟨rfl, HB4.out.trans (hbut9.below (Nat.le_refl _) HB4.out.size)⟩
set_option maxHeartbeats 1000000 in
theorem HVerify_any (A A2 A3 : Option Addr) (c c2 c3 : Nat) (key b t : List UInt8) (w : World) (hK : S.SLaid w) (hin : BytesIn w w.heap.size A c key) (hin2 : BytesIn w w.heap.size A2 c2 b) (hin3 : BytesIn w w.heap.size A3 c3 t) (hlen : key.length ≤ 100000) (hlen2 : b.length ≤ 100000) (ht : t.length ≤ 100000) :
    Calls Tryd.prog 38 #[.slice A key.length c, .slice A2 b.length c2, .slice A3 t.length c3] w fun e w' => e = .returned (.int .i64 (M.code (decide (M.tag key b = t)))) ∧ Below w.heap.size w w' := by
  have HTg := Lib.hid (HTag_any A A2 c c2 key b w hK hin hin2 hlen hlen2)
  have HC := Lib.hid (fun w hi => check_any (M.tag key b) (M.tag_len _ _) A3 c3 t w hi (by omega))
  have HI := Lib.hid hin3
  generalize (M.tag key b).map S.byteV = D at HTg HC
  generalize key.length = N1 at HTg ⊢
  generalize b.length = N2 at HTg ⊢
  generalize t.length = N3 at HC ⊢
  clear hK hin hin2 hin3 hlen hlen2 ht
  go_enter Tryd.func38, Tryd.ntmps38
  go_wp2_with fail
  refine HTg.out.mono ?_
  rintro e w1 ⟨rfl, hb1⟩
  have HB1 := Lib.hid hb1
  clear hb1
  go_wp2_with fail
  refine (HC.out _ ((HI.out.below HB1.out).more HB1.out.size)).mono ?_
  rintro e w2 ⟨rfl, hb2⟩
  have HB2 := Lib.hid (HB1.out.trans (hb2.mono HB1.out.size))
  clear hb2
  go_wp2_with fail
  go_ret
  exact ⟨rfl, HB2.out⟩
end Go.Proofs.YtgpgnfdbjljljaaDoor
