/- The contracts of the reference's Block and padded. -/
import Derived.Test.YtgpgnfdbjljljaaDoorHmBlk
import Derived.Test.YtgpgnfdbjljljaaDoorShaRSum
namespace Go.Proofs.YtgpgnfdbjljljaaDoor
open Go.RowKit
namespace M
/-- The first bytes of a list, and zeros. -/
def part (l : List UInt8) (k : Nat) : List UInt8 := l.take k ++ List.replicate (64 - k) 0
theorem part_zero (l : List UInt8) : (part l 0).map S.byteV = List.replicate 64 (S.byteV 0) := by simp [part]
theorem part_all {l : List UInt8} : part l l.length = fit l := by
  unfold part fit
  rw [List.take_length]
theorem part_at {l : List UInt8} {k : Nat} (h : k < l.length) (hl : l.length ≤ 64) : ((part l k).map S.byteV)[k]? = some (.int .u8 0) := by
  unfold part
  rw [List.getElem?_map, List.getElem?_append_right (by rw [List.length_take]; omega), List.length_take, Nat.min_eq_left (by omega), Nat.sub_self, List.getElem?_replicate, if_pos (by omega)]
  rfl
theorem part_set {l : List UInt8} {k : Nat} (h : k < l.length) (hl : l.length ≤ 64) : ((part l k).map S.byteV).set k (.int .u8 (l[k].toNat : Int)) = (part l (k + 1)).map S.byteV := by
  unfold part
  obtain ⟨m, hm⟩ : ∃ m, 64 - k = m + 1 := ⟨63 - k, by omega⟩
  rw [show (Value.int .u8 (l[k].toNat : Int)) = S.byteV l[k] from rfl, ← List.map_set, hm, List.replicate_succ, List.set_append_right _ _ (by rw [List.length_take]; omega), List.length_take, Nat.min_eq_left (by omega), Nat.sub_self, List.set_cons_zero, List.take_succ_eq_append_getElem h, List.append_assoc, show 64 - (k + 1) = m by omega]
  rfl
end M
set_option maxRecDepth 100000 in
set_option maxHeartbeats 2000000 in
theorem RKBlock_any (A : Option Addr) (c : Nat) (key : List UInt8) (w : World) (hin : BytesIn w w.heap.size A c key) (hlen : key.length ≤ 100000) :
    Calls Tryd.prog 33 #[.slice A key.length c] w fun e w' => e = .returned (.agg ((M.block key).map S.byteV).toArray) ∧ Below w.heap.size w w' := by
  obtain ⟨R, HR⟩ : ∃ R, Hid (R = (M.block key).map S.byteV) := ⟨_, Lib.hid rfl⟩
  rw [← HR.out]
  have HRl := Lib.hid (show R.length = 64 by rw [HR.out, List.length_map, M.block_len])
  have HRi := Lib.hid (show (Tryd.prog.info? 60).map (·.size) = some R.toArray.size by rw [S.info_blk]; simp [HRl.out])
  have HR1 := Lib.hid (show R.toArray.all (·.oneCell') = true by rw [HR.out]; exact S.bvals_one _)
  have HSum := fun w hi => RSum_any A c key w hi hlen
  obtain ⟨N, HN⟩ : ∃ N, Hid (N = key.length) := ⟨_, Lib.hid rfl⟩
  rw [← HN.out] at hlen HSum ⊢
  replace HSum := Lib.hid HSum
  have HIN := Lib.hid hin
  clear hin
  by_cases hlt : 64 < N
  · have hs : M.short key = S.digest key := by unfold M.short; rw [if_pos (by rw [← HN.out]; exact hlt)]
    have hlti : (64 : Int) < (N : Int) := by omega
    obtain ⟨d, Hd⟩ : ∃ d, Hid (d = S.digest key) := ⟨_, Lib.hid rfl⟩
    have HRE := Lib.hid (show (M.part d d.length).map S.byteV = R by rw [M.part_all, HR.out, Hd.out]; unfold M.block; rw [hs])
    have hdl : d.length = 32 := by rw [Hd.out, S.digest_len]
    have HDI := Lib.hid (show (Tryd.prog.info? 22).map (·.size) = some (d.map S.byteV).toArray.size by rw [S.info_d32]; simp [hdl])
    unfold S.digV at HSum
    rw [← Hd.out] at HSum
    have HDL := Lib.hid hdl
    clear hs hdl
    go_enter Tryd.func33, Tryd.ntmps33
    go_wp2_with fail
    generalize hwx : ((w.alloc _).alloc _) = wx
    have hres : S.Row wx w.heap.size 60 (List.replicate 64 (S.byteV 0)) := by rw [← hwx]; exact ((S.Row.made _ _ _ rfl rfl).alloc _)
    have hout : S.Row wx (w.heap.size + 1) 60 (List.replicate 64 (S.byteV 0)) := by rw [← hwx]; exact S.Row.made _ _ _ (by simp) rfl
    have hb0 : Below w.heap.size w wx := by rw [← hwx]; exact (((Below.refl _ w).alloc (Nat.le_refl _) _).alloc (by simp) _)
    clear hwx
    refine (HSum.out _ ((HIN.out.below hb0).more hb0.size)).mono ?_
    rintro e w1 ⟨rfl, hb1⟩
    have hres1 := hres.below hb1 hres.lt
    have hout1 := hout.below hb1 hout.lt
    have hb01 := hb0.trans (hb1.mono hb0.size)
    clear hres hout hb0 hb1 HSum
    go_wp2_with (refine S.wpList_store_but rfl 22 (.tmp 4) (.tmp 11) rfl w1.heap.size (d.map S.byteV) rfl rfl _ _ (S.Row.made (l := List.replicate 32 (S.byteV 0)) _ _ _ rfl rfl) HDI.out (by simp [HDL.out]) (S.bvals_one _) ?_; intro w2 hr2 hbut2; have hres2 := hbut2.row (hres1.alloc _) (by have := hres1.lt; omega); have hout2 := hbut2.row (hout1.alloc _) (by have := hout1.lt; omega); have hb02 := (hb01.alloc hb01.size (.cells (Array.replicate 32 (S.byteV 0)) 22)).trans (hbut2.below (C := w.heap.size) hb01.size (by have := hb01.size; simp; omega)); have hltd := hout1.lt; clear hbut2 hres1 hout1 hb01)
    go_loopw [5] (fun i wr => ∃ k : Nat, k ≤ 32 ∧ i = .int .i64 k ∧ S.Row wr w1.heap.size 22 (d.map S.byteV) ∧ S.Row wr w.heap.size 60 (List.replicate 64 (S.byteV 0)) ∧ S.Row wr (w.heap.size + 1) 60 ((M.part d k).map S.byteV) ∧ Below w.heap.size w wr) (fun i _ => 32 - (intOf i).toNat)
    case atStart => exact ⟨0, Nat.zero_le _, rfl, hr2, hres2, by rw [M.part_zero]; exact hout2, hb02⟩
    case round =>
      clear hr2 hres2 hout2 hb02
      obtain ⟨k, hk, rfl, hr, hres, hout, hbel⟩ := hrel
      by_cases hlt2 : k < 32
      · have hkl : k < d.length := by rw [HDL.out]; exact hlt2
        have hc := hr.cell (j := k) (v := .int .u8 (d[k].toNat : Int)) (by rw [List.getElem?_map, List.getElem?_eq_getElem hkl]; rfl)
        have ho := hout.cell (M.part_at hkl (by rw [HDL.out]; omega))
        have hf := hout.frozen k
        have HS := Lib.hid (M.part_set hkl (by rw [HDL.out]; omega))
        generalize d[k].toNat = y at hc HS
        clear hkl
        go_wp2_with fail
        go_roundw
        case rel => exact ⟨k + 1, by omega, by go_num, hr.setOther _ (by simp; omega) _, hres.setOther _ (by simp) _, HS.out ▸ hout.set k _, hbel.setCell (by simp) _⟩
        case measure => simp [intOf]; omega
      · obtain rfl : k = 32 := by omega
        have hro : S.Row wr (w.heap.size + 1) 60 R.toArray.toList := by rw [← HDL.out, HRE.out] at hout; exact hout
        have HB := Lib.hid hbel
        clear hbel hout hr
        go_wp2_with (first
          | (refine wpList_load_row rfl 60 (.tmp 3) rfl (w.heap.size + 1) rfl _ R.toArray (0, 0) _ hro Tryd.underlying60 rfl HRi.out ?_)
          | (refine S.wpList_store_but rfl 60 (.tmp 2) (.tmp 21) rfl w.heap.size R rfl rfl _ _ hres HRi.out (by rw [HRl.out]; rfl) HR1.out ?_; intro w9 hr9 hbut9))
        exact bodyPost_ret (v := .agg R.toArray) (results_cell_row Tryd.results33 _ _ w.heap.size _ _ _ _ rfl hr9 Tryd.underlying60 rfl HRi.out) rfl ⟨rfl, HB.out.trans (hbut9.below (Nat.le_refl _) HB.out.size)⟩
  · have hs : M.short key = key := by unfold M.short; rw [if_neg (by rw [← HN.out]; exact hlt)]
    have hlti : ¬ (64 : Int) < (N : Int) := by omega
    have HRE := Lib.hid (show (M.part key key.length).map S.byteV = R by rw [M.part_all, HR.out]; unfold M.block; rw [hs])
    have hN64 : N ≤ 64 := by omega
    clear hs HSum
    go_enter Tryd.func33, Tryd.ntmps33
    go_wp2_with fail
    generalize hwx : ((w.alloc _).alloc _) = wx
    have hres2 : S.Row wx w.heap.size 60 (List.replicate 64 (S.byteV 0)) := by rw [← hwx]; exact ((S.Row.made _ _ _ rfl rfl).alloc _)
    have hout2 : S.Row wx (w.heap.size + 1) 60 (List.replicate 64 (S.byteV 0)) := by rw [← hwx]; exact S.Row.made _ _ _ (by simp) rfl
    have hb02 : Below w.heap.size w wx := by rw [← hwx]; exact (((Below.refl _ w).alloc (Nat.le_refl _) _).alloc (by simp) _)
    clear hwx
    go_loopw [6] (fun i wr => ∃ k : Nat, k ≤ N ∧ i = .int .i64 k ∧ S.Row wr w.heap.size 60 (List.replicate 64 (S.byteV 0)) ∧ S.Row wr (w.heap.size + 1) 60 ((M.part key k).map S.byteV) ∧ Below w.heap.size w wr) (fun i _ => N - (intOf i).toNat)
    case atStart => exact ⟨0, Nat.zero_le _, rfl, hres2, by rw [M.part_zero]; exact hout2, hb02⟩
    case round =>
      clear hres2 hout2 hb02
      obtain ⟨k, hk, rfl, hres, hout, hbel⟩ := hrel
      by_cases hlt2 : k < N
      · have hkl : k < key.length := by rw [← HN.out]; exact hlt2
        obtain ⟨ad, hA, hc⟩ := (HIN.out.below hbel).at_ hkl
        have ho := hout.cell (M.part_at hkl (by rw [← HN.out]; omega))
        have hf := hout.frozen k
        have HS := Lib.hid (M.part_set hkl (by rw [← HN.out]; omega))
        generalize key[k].toNat = y at hc HS
        subst hA
        clear hkl
        go_wp2_with fail
        go_roundw
        case rel => exact ⟨k + 1, by omega, by go_num, hres.setOther _ (by simp) _, HS.out ▸ hout.set k _, hbel.setCell (by simp) _⟩
        case measure => simp [intOf]; omega
      · obtain rfl : k = N := by omega
        have hro : S.Row wr (w.heap.size + 1) 60 R.toArray.toList := by have h9 := hout; rw [show k = key.length from HN.out, HRE.out] at h9; exact h9
        have HB := Lib.hid hbel
        clear hbel hout
        go_wp2_with (first
          | (refine wpList_load_row rfl 60 (.tmp 3) rfl (w.heap.size + 1) rfl _ R.toArray (0, 0) _ hro Tryd.underlying60 rfl HRi.out ?_)
          | (refine S.wpList_store_but rfl 60 (.tmp 2) (.tmp 34) rfl w.heap.size R rfl rfl _ _ hres HRi.out (by rw [HRl.out]; rfl) HR1.out ?_; intro w9 hr9 hbut9))
        exact bodyPost_ret (v := .agg R.toArray) (results_cell_row Tryd.results33 _ _ w.heap.size _ _ _ _ rfl hr9 Tryd.underlying60 rfl HRi.out) rfl ⟨rfl, HB.out.trans (hbut9.below (Nat.le_refl _) HB.out.size)⟩
end Go.Proofs.YtgpgnfdbjljljaaDoor
