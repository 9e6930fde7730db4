/- The contracts of the methods of a mac. -/
import Derived.Test.YtgpgnfdbjljljaaDoorHmMac
import Derived.Test.YtgpgnfdbjljljaaDoorHmEq
namespace Go.Proofs.YtgpgnfdbjljljaaDoor
open Go.RowKit
namespace M
/-- What Verify returns. -/
def code (b : Bool) : Int := if b then 0 else 12
theorem MacAt.but {w w' : World} {B H : Nat} {blk l m : List UInt8} (h : MacAt w B H blk l) (hb : S.But H w w') (hh : S.HashAt w' H (mix 54 blk ++ m)) : MacAt w' B H blk m :=
  ⟨h.len, h.ne, hb.row h.row (Ne.symm h.ne), hh⟩
end M
set_option maxHeartbeats 400000 in
theorem MMade_yes (B H : Nat) (blk l : List UInt8) (w : World) (h : M.MacAt w B H blk l) :
    Calls Tryd.prog 62 #[.pointer (some ⟨B, 0, none⟩)] w fun e w' => e = .returned (.bool true) ∧ w = w' := by
  have hc := h.at1
  have he : ∃ j, Tryd.prog.info? 79 = some j := by
    cases hq : Tryd.prog.info? 79 with
    | none => have := M.info_mac; rw [hq] at this; cases this
    | some j => exact ⟨j, rfl⟩
  obtain ⟨j, hj⟩ := he
  have heq := run_eql_ptr_same (w := w) ⟨B, 0, none⟩ Tryd.underlying70 hj
  clear h
  go_enter Tryd.func62, Tryd.ntmps62
  go_wp2_with fail
  go_ret
  exact ⟨rfl, rfl⟩
set_option maxHeartbeats 400000 in
theorem MMade_nil (w : World) :
    Calls Tryd.prog 62 #[.pointer none] w fun e w' => e = .returned (.bool false) ∧ w = w' := by
  go_enter Tryd.func62, Tryd.ntmps62
  go_wp2_with fail
  go_ret
  exact ⟨rfl, rfl⟩
set_option maxHeartbeats 400000 in
theorem MMade_no (B : Nat) (w : World) (h : w.cell? ⟨B, 1, none⟩ = some (.pointer none)) :
    Calls Tryd.prog 62 #[.pointer (some ⟨B, 0, none⟩)] w fun e w' => e = .returned (.bool false) ∧ w = w' := by
  have heq : (binOp .eql 70 (.pointer none) (.pointer (some ⟨B, 0, none⟩))).run Tryd.prog w = .ok (.bool false) w := by
    have h9 : ∀ d : Nat, (Op.equalIn (d + 1) 70 (.pointer none) (.pointer (some ⟨B, 0, none⟩))).run Tryd.prog w = .ok false w := fun d => by
      simp [Op.equalIn, run_underlying Tryd.underlying70]
    simp only [binOp]
    simp [Op.equal, Op.maxDepth, h9 9999]
  go_enter Tryd.func62, Tryd.ntmps62
  go_wp2_with fail
  go_ret
  exact ⟨rfl, rfl⟩
set_option maxHeartbeats 1000000 in
theorem MWrite_any (B H : Nat) (blk l : List UInt8) (A : Option Addr) (c : Nat) (b : List UInt8) (w : World) (hK : S.SLaid w) (hH : 2 ≤ H) (hm : M.MacAt w B H blk l) (hin : BytesIn w w.heap.size A c b) (hne : 0 < b.length → ∀ ad, A = some ad → ad.block ≠ H) (hlen : l.length + b.length ≤ 1000000) :
    Calls Tryd.prog 41 #[.pointer (some ⟨B, 0, none⟩), .slice A b.length c] w fun e w' => e = .returned (.int .i64 0) ∧ M.MacAt w' B H blk (l ++ b) ∧ S.But H w w' := by
  have HK := Lib.hid hK
  have c0 := hm.at0
  have hw := Lib.hid (Write_any H (M.mix 54 blk ++ l) A c b w hK hH hm.hash hin hne (by rw [List.length_append, M.mix_len, hm.len]; omega))
  clear hK hin hne
  go_enter Tryd.func41, Tryd.ntmps41
  go_wp2_with fail
  refine (MMade_yes B H blk l _ hm).mono ?_
  rintro e w' ⟨rfl, rfl⟩
  go_wp2_with fail
  refine hw.out.mono ?_
  rintro e w1 ⟨rfl, h1, h2⟩
  clear hw
  go_wp2_with fail
  go_ret
  exact ⟨rfl, hm.but h2 (by rw [← List.append_assoc]; exact h1), h2⟩
set_option maxRecDepth 100000 in
set_option maxHeartbeats 1000000 in
theorem MTag_any (B H : Nat) (blk l : List UInt8) (w : World) (hK : S.SLaid w) (hm : M.MacAt w B H blk l) (hlen : l.length ≤ 10000000) :
    Calls Tryd.prog 43 #[.pointer (some ⟨B, 0, none⟩)] w fun e w' => e = .returned (.tuple #[.agg ((M.tagOf blk l).map S.byteV).toArray, .int .i64 0]) ∧ Below w.heap.size w w' := by
  have h2 := hK.lt.1
  have HK := Lib.hid hK
  have hBl := hm.row.lt
  have hHl := hm.hash.lt
  have HS := Lib.hid (fun w hw hh => HSum_any H (M.mix 54 blk ++ l) w hw hh (by rw [List.length_append, M.mix_len, hm.len]; omega))
  obtain ⟨d, HD⟩ : ∃ d, Hid (d = S.digest (M.mix 54 blk ++ l)) := ⟨_, Lib.hid rfl⟩
  have HDl := Lib.hid (show d.length = 32 by rw [HD.out, S.digest_len])
  unfold S.digV at HS
  rw [← HD.out] at HS
  have HO := Lib.hid (fun w hw => outer_any blk d hm.len HDl.out w hw)
  obtain ⟨R, HR⟩ : ∃ R, Hid (R = S.digV (M.mix 92 blk ++ d)) := ⟨_, Lib.hid rfl⟩
  have HRl := Lib.hid (show R.length = 32 by rw [HR.out, S.digV_len])
  have HRi := Lib.hid (show (Tryd.prog.info? 22).map (·.size) = some R.toArray.size by rw [HR.out]; exact S.digV_info _)
  have HR1 := Lib.hid (show R.toArray.all (·.oneCell') = true by rw [HR.out]; exact S.digV_one _)
  rw [← HR.out] at HO
  rw [show (M.tagOf blk l).map S.byteV = R by rw [HR.out, HD.out]; rfl]
  obtain ⟨BV, HBV⟩ : ∃ BV, Hid (BV = blk.map S.byteV) := ⟨_, Lib.hid rfl⟩
  have HBi := Lib.hid (show (Tryd.prog.info? 60).map (·.size) = some BV.toArray.size by rw [HBV.out, S.info_blk]; simp [hm.len])
  have HBc := Lib.hid (fun (w : World) (h : M.MacAt w B H blk l) => h.blk)
  rw [← HBV.out] at HO HBc
  obtain ⟨DV, HDV⟩ : ∃ DV, Hid (DV = d.map S.byteV) := ⟨_, Lib.hid rfl⟩
  have HDVi := Lib.hid (show (Tryd.prog.info? 22).map (·.size) = some DV.toArray.size by rw [HDV.out, S.info_d32]; simp [HDl.out])
  have HDV1 := Lib.hid (show DV.toArray.all (·.oneCell') = true by rw [HDV.out]; exact S.bvals_one _)
  have HDVl := Lib.hid (show DV.length = 32 by rw [HDV.out]; simp [HDl.out])
  rw [← HDV.out] at HO HS
  clear hK
  go_enter Tryd.func43, Tryd.ntmps43
  go_wp2_with fail
  have hb0 : Below w.heap.size w (w.alloc (.cells (Array.replicate 32 (S.byteV 0)) 22)) := (Below.refl _ _).alloc (Nat.le_refl _) _
  have hm1 := hm.below hb0 hBl hHl
  have hres1 : S.Row (w.alloc (.cells (Array.replicate 32 (S.byteV 0)) 22)) w.heap.size 22 (List.replicate 32 (S.byteV 0)) := S.Row.made _ _ _ rfl rfl
  refine (MMade_yes B H blk l _ hm1).mono ?_
  rintro e w' ⟨rfl, rfl⟩
  have c0 := hm1.at0
  clear hm
  go_wp2_with fail
  refine (HS.out _ (HK.out.below hb0 (by omega)) hm1.hash).mono ?_
  rintro e w2 ⟨rfl, hb2⟩
  have hm2 := hm1.below hb2 (by simp; omega) (by simp; omega)
  have hres2 := hres1.below hb2 hres1.lt
  have hb02 := hb0.trans (hb2.mono (by simp))
  clear hb0 hb2 hm1 hres1 HS c0
  go_wp2_with (refine S.wpList_store_but rfl 22 (.tmp 4) (.tmp 17) rfl w2.heap.size DV rfl rfl _ _ (S.Row.made (l := List.replicate 32 (S.byteV 0)) _ _ _ rfl rfl) HDVi.out (by rw [HDVl.out]; rfl) HDV1.out ?_; intro w3 hr3 hbut3; have hres3 := hbut3.row (hres2.alloc _) (by have := hres2.lt; omega); have hb23 := ((Below.refl w2.heap.size w2).alloc (Nat.le_refl _) (.cells (Array.replicate 32 (S.byteV 0)) 22)).trans (hbut3.below (C := w2.heap.size) (Nat.le_refl _) (by simp)); have hm3 := hm2.below hb23 hm2.row.lt hm2.hash.lt; have hb03 := hb02.trans (hb23.mono hb02.size); clear hb23 hbut3 hm2 hres2 hb02)
  refine wp_region_still_tail 5 (by kernel_rfl) (by kernel_rfl) ?_
  simp only [List.take_succ_cons, List.take_zero, List.drop_succ_cons, List.drop_zero]
  repeat still_step
  refine S.wpStill_load_part rfl 60 (.tmp 21) rfl B 2 rfl BV.toArray _ (fun j v hj => (HBc.out w3 hm3 j v hj : w3.cell? ⟨B, 2 + j, none⟩ = some v)) Tryd.underlying60 rfl HBi.out ?_
  refine S.wpStill_load_part rfl 22 (.tmp 4) rfl w2.heap.size 0 rfl DV.toArray _ (fun j v hj => by rw [Nat.zero_add]; exact hr3.cell hj) Tryd.underlying22 rfl HDVi.out ?_
  refine wpStill_nil ?_
  (try simp only [Act.put, List.setIfInBounds_toArray, List.set_cons_zero, List.set_cons_succ])
  change wpList _ _ _ _ _ w3.drew
  have hres4 : S.Row w3.drew w.heap.size 22 (List.replicate 32 (S.byteV 0)) := hres3
  have hb04 : Below w.heap.size w w3.drew := hb03.drew
  generalize w3.drew = w4 at hres4 hb04 ⊢
  clear hres3 hb03 hr3 hm3 HBc
  go_wp2_with fail
  refine (HO.out _ (HK.out.below hb04 (by omega))).mono ?_
  rintro e w5 ⟨rfl, hb5⟩
  have hres5 := hres4.below hb5 hres4.lt
  have HB5 := Lib.hid (hb04.trans (hb5.mono hb04.size))
  clear hres4 hb04 hb5 HO
  go_wp2_with (refine S.wpList_store_but rfl 22 (.tmp 2) (.tmp 24) rfl w.heap.size R rfl rfl _ _ hres5 HRi.out (by rw [HRl.out]; rfl) HR1.out ?_; intro w9 hr9 hbut9)
  exact bodyPost_ret (v := .tuple #[.agg R.toArray, .int .i64 0]) (S.results_cell_two Tryd.results43 _ _ w.heap.size _ _ _ _ _ rfl rfl hr9 Tryd.underlying22 rfl HRi.out) rfl ⟨rfl, HB5.out.trans (hbut9.below (Nat.le_refl _) HB5.out.size)⟩
end Go.Proofs.YtgpgnfdbjljljaaDoor
