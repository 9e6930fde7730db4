/- Contracts of package sha: Sum and the methods of a hash. -/
import Derived.Test.YtgpgnfdbjljljaaDoorShaDig
import Derived.Laws.ResultCell
namespace Go.Proofs.YtgpgnfdbjljljaaDoor
open Go.RowKit
namespace S
theorem ret_two {a b c d : Value} (h : a = c) (k : b = d) : Ending.returned (.tuple #[a, b]) = .returned (.tuple #[c, d]) := by rw [h, k]
/-- The digest of bytes as a value. -/
def digV (l : List UInt8) : List Value := (digest l).map byteV
theorem digest_len (l : List UInt8) : (digest l).length = 32 := by rw [digest_eq, ← part_all, part_len _ (Nat.le_refl _)]
theorem digV_len (l : List UInt8) : (digV l).length = 32 := by unfold digV; rw [List.length_map, digest_len]
theorem digV_info (l : List UInt8) : (Tryd.prog.info? 22).map (·.size) = some (digV l).toArray.size := by rw [info_d32]; simp [digV_len]
theorem digV_one (l : List UInt8) : (digV l).toArray.all (·.oneCell') = true := bvals_one _
end S
set_option maxRecDepth 100000 in
set_option maxHeartbeats 1000000 in
theorem Sum_any (A : Option Addr) (c : Nat) (b : List UInt8) (w : World) (hK : S.SLaid w) (hin : BytesIn w w.heap.size A c b) (hlen : b.length ≤ 1000000) :
    Calls Tryd.prog 45 #[.slice A b.length c] w fun e w' => e = .returned (.agg (S.digV b).toArray) ∧ Below w.heap.size w w' := by
  have h2 := hK.lt.1
  have HK := Lib.hid hK
  obtain ⟨D, HD⟩ : ∃ D, Hid (D = S.digV b) := ⟨_, Lib.hid rfl⟩
  have HDl := Lib.hid (show D.length = 32 by rw [HD.out, S.digV_len])
  have HDi := Lib.hid (show (Tryd.prog.info? 22).map (·.size) = some D.toArray.size by rw [HD.out]; exact S.digV_info _)
  have HD1 := Lib.hid (show D.toArray.all (·.oneCell') = true by rw [HD.out]; exact S.digV_one _)
  rw [← HD.out]
  have hin1 := hin.below ((Below.refl w.heap.size w).alloc (Nat.le_refl _) (.cells (Array.replicate 32 (S.byteV 0)) 22))
  clear hK
  go_enter Tryd.func45, Tryd.ntmps45
  go_wp2_with fail
  have hb0 : Below w.heap.size w (w.alloc (.cells (Array.replicate 32 (S.byteV 0)) 22)) := (Below.refl _ _).alloc (Nat.le_refl _) _
  refine (New_any _ (HK.out.below hb0 (by omega))).mono ?_
  rintro e w1 ⟨B, rfl, hh1, hb1, hB⟩
  have hBle : w.heap.size + 1 ≤ B := by simpa using hB
  have hres1 : S.Row w1 w.heap.size 22 ((List.replicate 32 (0 : UInt8)).map S.byteV) := (S.Row.made _ _ _ rfl rfl).below hb1 (by simp)
  have hin2 := hin1.below (hb1.mono (B' := w.heap.size) (by simp))
  have hb01 := hb0.trans (hb1.mono (by simp))
  have HB01 := Lib.hid hb01
  have hs1 := hb01.size
  clear hb0 hb1 hin1 hB hb01 hin
  go_wp2_with fail
  refine (take_any B ⟨B, 0, none⟩ [] A c b w1 (HK.out.below HB01.out (by omega)) (by omega) hh1 (hin2.more hs1) (fun h0 ad e => by obtain ⟨x, t, rfl⟩ := List.exists_cons_of_ne_nil (List.ne_nil_of_length_pos h0); have := (hin2.cells ad e 0 x rfl).1; omega) (by simp; omega)).mono ?_
  rintro e w2 ⟨rfl, hp2, hbut2⟩
  have hres2 := hbut2.row hres1 (by omega)
  have hb2 := HB01.out.trans (hbut2.below (C := w.heap.size) (by omega) hs1)
  have HB2 := Lib.hid hb2
  have hl2 := Lib.hid (HK.out.below hb2 (by omega))
  rw [List.nil_append] at hp2
  clear hbut2 hb2 hres1 hh1 hin2
  go_wp2_with fail
  refine (digest_any B _ b w2 hl2.out hp2 (by omega)).mono ?_
  rintro e w3 ⟨rfl, hb3⟩
  have hres3 := hres2.below hb3 hres2.lt
  have HB3 := Lib.hid (HB2.out.trans (hb3.mono HB2.out.size))
  rw [show ((S.digest b).map S.byteV).toArray = D.toArray by rw [HD.out]; rfl]
  clear hb3 hres2 hp2
  go_wp2_with (refine S.wpList_store_but rfl 22 (.tmp 2) (.tmp 9) rfl w.heap.size D rfl rfl _ _ hres3 HDi.out (by rw [HDl.out]; rfl) HD1.out ?_; intro w9 hr9 hbut9)
  exact bodyPost_ret (v := .agg D.toArray) (results_cell_row Tryd.results45 _ _ w.heap.size _ _ _ _ rfl hr9 Tryd.underlying22 rfl HDi.out) rfl ⟨rfl, HB3.out.trans (hbut9.below (Nat.le_refl _) HB3.out.size)⟩
theorem S.results_cell_two {P : Program} {fn : Func} {p u : Tmp} {ty : TypeId} (h : fn.results = #[.cell p ty, .tmp u]) (tmps : Array Value) (w : World) (g : Nat) (t : TypeId) (cs : Array Value) (fr : Nat × Nat) (d : TypeDesc) (v : Value)
    (hp : tmps.getD p undef = .pointer (some ⟨g, 0, none⟩)) (hv : tmps.getD u undef = v) (hg : w.heap[g]? = some (.cells cs t fr))
    (hu : P.underlying ty = some d) (hd : (match d with | .struct _ | .array _ _ => true | _ => false) = true) (hi : (P.info? ty).map (·.size) = some cs.size) :
    (results fn tmps).run P w = .ok (.tuple #[.agg cs, v]) w := by
  rw [results_cell_tmp h, hp, hv]
  simp [asAddr, run_loadVar_row w g t ty cs fr d hg hu hd hi]
set_option maxHeartbeats 1000000 in
theorem Write_any (B : Nat) (l : List UInt8) (A : Option Addr) (c : Nat) (b : List UInt8) (w : World) (hK : S.SLaid w) (hB : 2 ≤ B) (hh : S.HashAt w B l) (hin : BytesIn w w.heap.size A c b) (hne : 0 < b.length → ∀ ad, A = some ad → ad.block ≠ B) (hlen : l.length + b.length ≤ 1000000000) :
    Calls Tryd.prog 20 #[.pointer (some ⟨B, 0, none⟩), .slice A b.length c] w fun e w' => e = .returned (.int .i64 0) ∧ S.HashAt w' B (l ++ b) ∧ S.But B w w' := by
  have HK := Lib.hid hK
  clear hK
  go_enter Tryd.func20, Tryd.ntmps20
  go_wp2_with fail
  refine (isMade_yes B l _ hh).mono ?_
  rintro e w' ⟨rfl, rfl⟩
  go_wp2_with fail
  refine (take_any B _ l A c b _ HK.out hB hh hin hne hlen).mono ?_
  rintro e w1 ⟨rfl, h1, h2⟩
  clear hh hin hne
  go_wp2_with fail
  go_ret
  exact ⟨rfl, h1, h2⟩
set_option maxHeartbeats 1000000 in
theorem Reset_any (B : Nat) (l : List UInt8) (w : World) (hK : S.SLaid w) (hh : S.HashAt w B l) :
    Calls Tryd.prog 21 #[.pointer (some ⟨B, 0, none⟩)] w fun e w' => e = .returned (.int .i64 0) ∧ S.HashAt w' B [] ∧ S.But B w w' := by
  have HK := Lib.hid hK
  clear hK
  go_enter Tryd.func21, Tryd.ntmps21
  go_wp2_with fail
  refine (isMade_yes B l _ hh).mono ?_
  rintro e w' ⟨rfl, rfl⟩
  obtain ⟨last, h64, _, hrow⟩ := hh.row
  go_wp2_with fail
  refine (begin_any B _ (S.hcells_len h64) _ HK.out hrow).mono ?_
  rintro e w1 ⟨rfl, h1, h2⟩
  clear hrow
  go_wp2_with fail
  go_ret
  exact ⟨rfl, h1, h2⟩
set_option maxHeartbeats 1000000 in
theorem Len_any (B : Nat) (l : List UInt8) (w : World) (hh : S.HashAt w B l) :
    Calls Tryd.prog 24 #[.pointer (some ⟨B, 0, none⟩)] w fun e w' => e = .returned (.tuple #[.int .i64 l.length, .int .i64 0]) ∧ w = w' := by
  obtain ⟨last, h64, _, hrow⟩ := hh.row
  have c73 := hrow.cell (S.hcells_len_at h64)
  clear hrow
  go_enter Tryd.func24, Tryd.ntmps24
  go_wp2_with fail
  refine (isMade_yes B l _ hh).mono ?_
  rintro e w' ⟨rfl, rfl⟩
  go_wp2_with fail
  go_ret2
  exact ⟨rfl, rfl⟩
set_option maxRecDepth 100000 in
set_option maxHeartbeats 1000000 in
theorem HSum_any (B : Nat) (l : List UInt8) (w : World) (hK : S.SLaid w) (hh : S.HashAt w B l) (hlen : l.length ≤ 100000000) :
    Calls Tryd.prog 23 #[.pointer (some ⟨B, 0, none⟩)] w fun e w' => e = .returned (.tuple #[.agg (S.digV l).toArray, .int .i64 0]) ∧ Below w.heap.size w w' := by
  have h2 := hK.lt.1
  have HK := Lib.hid hK
  obtain ⟨D, HD⟩ : ∃ D, Hid (D = S.digV l) := ⟨_, Lib.hid rfl⟩
  have HDl := Lib.hid (show D.length = 32 by rw [HD.out, S.digV_len])
  have HDi := Lib.hid (show (Tryd.prog.info? 22).map (·.size) = some D.toArray.size by rw [HD.out]; exact S.digV_info _)
  have HD1 := Lib.hid (show D.toArray.all (·.oneCell') = true by rw [HD.out]; exact S.digV_one _)
  rw [← HD.out]
  have hBl := hh.lt
  clear hK
  go_enter Tryd.func23, Tryd.ntmps23
  go_wp2_with fail
  have hb0 : Below w.heap.size w (w.alloc (.cells (Array.replicate 32 (S.byteV 0)) 22)) := (Below.refl _ _).alloc (Nat.le_refl _) _
  have hh1 := hh.below hb0 hBl
  refine (isMade_yes B l _ hh1).mono ?_
  rintro e w' ⟨rfl, rfl⟩
  clear hh
  go_wp2_with fail
  refine (digest_any B _ l _ (HK.out.below hb0 (by omega)) hh1 hlen).mono ?_
  rintro e w3 ⟨rfl, hb3⟩
  have hres3 : S.Row w3 w.heap.size 22 ((List.replicate 32 (0 : UInt8)).map S.byteV) := (S.Row.made _ _ _ rfl rfl).below hb3 (by simp)
  have HB3 := Lib.hid (hb0.trans (hb3.mono (by simp)))
  rw [show ((S.digest l).map S.byteV).toArray = D.toArray by rw [HD.out]; rfl]
  clear hb3 hh1 hb0
  go_wp2_with (refine S.wpList_store_but rfl 22 (.tmp 2) (.tmp 9) rfl w.heap.size D rfl rfl _ _ hres3 HDi.out (by rw [HDl.out]; rfl) HD1.out ?_; intro w9 hr9 hbut9)
  exact bodyPost_ret (v := .tuple #[.agg D.toArray, .int .i64 0]) (S.results_cell_two Tryd.results23 _ _ w.heap.size _ _ _ _ _ rfl rfl hr9 Tryd.underlying22 rfl HDi.out) rfl ⟨rfl, HB3.out.trans (hbut9.below (Nat.le_refl _) HB3.out.size)⟩
set_option maxRecDepth 100000 in
set_option maxHeartbeats 1000000 in
theorem Copy_any (B : Nat) (l : List UInt8) (w : World) (hh : S.HashAt w B l) :
    Calls Tryd.prog 22 #[.pointer (some ⟨B, 0, none⟩)] w fun e w' => ∃ B', e = .returned (.tuple #[.pointer (some ⟨B', 0, none⟩), .int .i64 0]) ∧ S.HashAt w' B' l ∧ Below w.heap.size w w' ∧ w.heap.size ≤ B' := by
  obtain ⟨last, h64, hlast, hrow⟩ := hh.row
  have hBlt := hrow.lt
  obtain ⟨CS, HCS⟩ : ∃ CS, Hid (CS = S.hcells ⟨B, 0, none⟩ (S.after l (l.length / 64)) last l.length) := ⟨_, Lib.hid rfl⟩
  rw [← HCS.out] at hrow
  have HCl := Lib.hid (show CS.length = 74 by rw [HCS.out, S.hcells_len h64])
  have HC1 := Lib.hid (show CS.toArray.all (·.oneCell') = true by rw [HCS.out]; exact S.hcells_one _ _ _ _)
  have HI := Lib.hid (show (Tryd.prog.info? 86).map (·.size) = some CS.toArray.size by rw [S.info_hash]; simp [HCl.out])
  have HL := Lib.hid hlast
  have HC0 := Lib.hid (show CS[0]? = some (.pointer (some ⟨B, 0, none⟩)) by rw [HCS.out]; rfl)
  have HS0 := Lib.hid (show CS.set 0 (.pointer (some ⟨w.heap.size, 0, none⟩)) = S.hcells ⟨w.heap.size, 0, none⟩ (S.after l (l.length / 64)) last l.length by rw [HCS.out]; rfl)
  have H64 := Lib.hid h64
  clear hlast h64
  go_enter Tryd.func22, Tryd.ntmps22
  go_wp2_with fail
  refine (isMade_yes B l _ hh).mono ?_
  rintro e w' ⟨rfl, rfl⟩
  clear hh
  go_wp2_with (first
    | (refine wpList_load_row rfl 86 (.tmp 9) rfl B rfl _ CS.toArray (0, 0) _ hrow Tryd.underlying86 rfl HI.out ?_)
    | (refine S.wpList_store_but rfl 86 (.tmp 4) (.tmp 10) rfl w.heap.size CS rfl rfl _ _ (S.Row.made _ _ _ rfl rfl) HI.out (by rw [HCl.out]; exact S.zeroCells_hash) HC1.out ?_; intro w1 hrow1 hbut1; have c0 := hrow1.cell HC0.out; have f0 := hrow1.frozen 0))
  have hr2 := hrow1.set 0 (.pointer (some ⟨w.heap.size, 0, none⟩))
  rw [HS0.out] at hr2
  have hb2 : Below w.heap.size w (w1.setCell ⟨w.heap.size, 0, none⟩ (.pointer (some ⟨w.heap.size, 0, none⟩))) := (((Below.refl _ _).alloc (Nat.le_refl _) _).trans (hbut1.below (Nat.le_refl _) (by simp))).setCell (Nat.le_refl _) _
  go_ret2
  exact ⟨w.heap.size, rfl, ⟨last, H64.out, HL.out, hr2⟩, hb2, Nat.le_refl _⟩
end Go.Proofs.YtgpgnfdbjljljaaDoor
