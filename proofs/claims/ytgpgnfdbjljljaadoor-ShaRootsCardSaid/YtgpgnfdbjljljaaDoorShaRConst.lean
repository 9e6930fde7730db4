/- The contracts of the reference's Constants and Start. -/
import Derived.Test.YtgpgnfdbjljljaaDoorShaRRoot
namespace Go.Proofs.YtgpgnfdbjljljaaDoor
open Go.RowKit
namespace S
def List.getD' (L : List Nat) (k : Nat) : Nat := L.getD k 0
/-- A table of which the first k are written. -/
def tab (L : List Nat) (k : Nat) : List Nat := L.take k ++ List.replicate (L.length - k) 0
theorem tab_at (L : List Nat) {k : Nat} (h : k < L.length) : ((tab L k).map wordV)[k]? = some (.int .u32 0) := by
  unfold tab
  rw [List.getElem?_map, List.getElem?_append_right (by simp; omega)]
  simp only [List.length_take]
  rw [Nat.min_eq_left (by omega), Nat.sub_self, List.getElem?_replicate, if_pos (by omega)]
  rfl
theorem tab_set (L : List Nat) {k : Nat} (h : k < L.length) : ((tab L k).map wordV).set k (.int .u32 (List.getD' L k : Nat)) = (tab L (k + 1)).map wordV := by
  have e : (Value.int .u32 (List.getD' L k : Nat)) = wordV L[k] := by unfold List.getD' wordV; rw [List.getD_eq_getElem?_getD, List.getElem?_eq_getElem h]; rfl
  unfold tab
  rw [e, ← List.map_set, List.set_append_right _ _ (by simp; omega), List.length_take, Nat.min_eq_left (by omega), Nat.sub_self]
  obtain ⟨m, hm⟩ : ∃ m, L.length - k = m + 1 := ⟨L.length - k - 1, by omega⟩
  rw [hm, List.replicate_succ, List.set_cons_zero, List.take_succ_eq_append_getElem h, show L.length - (k + 1) = m by omega, List.append_assoc]
  rfl
/-- The first 64 primes, seen from outside. -/
structure IsPr (Q : List Nat) : Prop where
  len : Q.length = 64
  lt : ∀ p, p ∈ Q → 2 ≤ p ∧ p < 312
  k : Q.map (fun p => rootN p true % 4294967296) = K
  s : (Q.take 8).map (fun p => rootN p false % 4294967296) = start.list
theorem map_getD (Q : List Nat) (f : Nat → Nat) (k : Nat) (h : k < Q.length) : (Q.map f).getD k 0 = f (Q.getD k 0) := by
  rw [List.getD_eq_getElem?_getD, List.getD_eq_getElem?_getD, List.getElem?_map, List.getElem?_eq_getElem h]; rfl
theorem take_getD (Q : List Nat) (m k : Nat) (h : k < m) : (Q.take m).getD k 0 = Q.getD k 0 := by
  rw [List.getD_eq_getElem?_getD, List.getD_eq_getElem?_getD, List.getElem?_take_of_lt h]
theorem pr_lt {Q : List Nat} (h : IsPr Q) {k : Nat} (hk : k < 64) : Q.getD k 0 < 4294967296 := by
  have hk' : k < Q.length := by rw [h.len]; exact hk
  have := (h.lt _ (List.getElem_mem hk')).2
  rw [List.getD_eq_getElem?_getD, List.getElem?_eq_getElem hk']
  exact Nat.lt_trans this (by decide)
theorem roots_true {Q : List Nat} (h : IsPr Q) (k : Nat) (hk : k < 64) : rootN (Q.getD k 0) true % 4294967296 = List.getD' K k := by
  have e := map_getD Q (fun p => rootN p true % 4294967296) k (by rw [h.len]; exact hk)
  rw [h.k] at e
  exact e.symm
theorem roots_false {Q : List Nat} (h : IsPr Q) (k : Nat) (hk : k < 8) : rootN (Q.getD k 0) false % 4294967296 = List.getD' start.list k := by
  have e := map_getD (Q.take 8) (fun p => rootN p false % 4294967296) k (by rw [List.length_take, h.len]; exact hk)
  rw [h.s, take_getD Q 8 k hk] at e
  exact e.symm
theorem own_row {w : World} {base m : Nat} {v : Value} {Q : List Nat} (h : w.ownsRow base 48 1 v m ((Q.take m).map longV)) (hq : IsPr Q) (hm : 0 < m ∧ m ≤ 64) : ∃ g c cur, v = .slice (some ⟨g, 0, none⟩) m c ∧ base ≤ g ∧ Row w g 48 cur ∧ ∀ k, k < m → cur[k]? = some (.int .u64 (Q.getD k 0 : Nat)) := by
  rcases h.2 with ⟨_, h2⟩ | ⟨g, cap, cur, h1, hb, hh, h2, h3, h4, h5⟩
  · omega
  · refine ⟨g, cap, cur.toList, h1, hb, hh, fun k hk => ?_⟩
    have hkl : k < Q.length := by rw [hq.len]; omega
    have e : (cur.toList.take (m * 1))[k]? = cur.toList[k]? := List.getElem?_take_of_lt (by omega)
    rw [← e, h5, List.getElem?_map, List.getElem?_take_of_lt hk, List.getElem?_eq_getElem hkl, List.getD_eq_getElem?_getD, List.getElem?_eq_getElem hkl]
    rfl
theorem isPr : IsPr (pr 312) := ⟨pr_len, pr_pos 312, roots_K, roots_start⟩
end S
theorem Primes_is (m : Nat) (hm : m ≤ 64) : ∃ Q, S.IsPr Q ∧ ∀ w : World, Calls Tryd.prog 26 #[.int .i64 m] w fun e w' => ∃ v, e = .returned v ∧ w'.ownsRow w.heap.size 48 1 v m ((Q.take m).map S.longV) ∧ Below w.heap.size w w' := ⟨S.pr 312, S.isPr, Primes_any m hm⟩
set_option maxRecDepth 100000 in
set_option maxHeartbeats 1000000 in
theorem RConstants_any (w : World) :
    Calls Tryd.prog 54 #[] w fun e w' => e = .returned (.agg (S.K.map S.wordV).toArray) ∧ Below w.heap.size w w' := by
  obtain ⟨V, HV⟩ : ∃ V, Hid (V = (S.K.map S.wordV).toArray) := ⟨_, Lib.hid rfl⟩
  rw [← HV.out]
  obtain ⟨Q, HQ, HPC⟩ := Primes_is 64 (by decide)
  replace HPC := Lib.hid HPC
  go_enter Tryd.func54, Tryd.ntmps54
  go_wp2_with fail
  refine (HPC.out _).mono ?_
  rintro e w1 ⟨v, rfl, hown, hb1⟩
  have hr0 : S.Row w1 w.heap.size 50 (List.replicate 64 (S.wordV 0)) := ((S.Row.made w _ _ (by simp) rfl).alloc _).below hb1 (by simp; omega)
  have hr1 : S.Row w1 (w.heap.size + 1) 50 ((S.tab S.K 0).map S.wordV) := (S.Row.made _ _ _ (by simp) rfl).below hb1 (by simp)
  have hB := (((Below.refl _ w).alloc (Nat.le_refl _) _).alloc (by simp) _).trans (hb1.mono (by simp; omega))
  obtain ⟨g, c, cur, rfl, hg, hrow, HC⟩ := S.own_row hown HQ (by decide)
  simp at hg
  replace HC := Lib.hid HC
  clear hown hb1
  go_wp2_with fail
  go_loopw [3] (fun i wr => ∃ k : Nat, k ≤ 64 ∧ i = .int .i64 k ∧ S.Row wr w.heap.size 50 (List.replicate 64 (S.wordV 0)) ∧ S.Row wr (w.heap.size + 1) 50 ((S.tab S.K k).map S.wordV) ∧ S.Row wr g 48 cur ∧ Below w.heap.size w wr) (fun i _ => 64 - (intOf i).toNat)
  case atStart => exact ⟨0, Nat.zero_le _, rfl, hr0, hr1, hrow, hB⟩
  case round =>
    clear hr0 hr1 hrow hB
    obtain ⟨k, hk, rfl, hr0, hr1, hrow, hbel⟩ := hrel
    by_cases hlt : k < 64
    · obtain ⟨p, HP⟩ : ∃ p, p = Q.getD k 0 := ⟨_, rfl⟩
      have hp : p < 4294967296 := by rw [HP]; exact S.pr_lt HQ (by omega)
      have hc := hrow.cell (HC.out k hlt)
      rw [← HP] at hc
      have HR := Lib.hid (show S.rootN p true % 4294967296 = S.List.getD' S.K k by rw [HP]; exact S.roots_true HQ k hlt)
      have HS := Lib.hid (S.tab_set S.K (k := k) hlt)
      have HT := Lib.hid (fun w => root_any p hp true w)
      clear HP
      generalize S.rootN p true = rt at HR HT
      generalize S.List.getD' S.K k = x at HR HS
      have gk : (k : Int) < 64 := by omega
      go_wp2_with fail
      refine (HT.out _).mono ?_
      rintro e w2 ⟨rfl, hb2⟩
      have hl0 := hr0.lt
      have hlg := hrow.lt
      have hr0' := hr0.below hb2 hr0.lt
      have hr1' := hr1.below hb2 hr1.lt
      have hrow' := hrow.below hb2 hrow.lt
      have hbel' := hbel.trans (hb2.mono hbel.size)
      have cz := hr1'.cell (j := k) (S.tab_at S.K hlt)
      have fz := hr1'.frozen k
      have HX := Lib.hid (show ((rt : Int) % 4294967296) = (x : Int) by rw [← HR.out]; simp)
      clear hr0 hr1 hrow hbel hb2 hc
      go_wp2_with fail
      rw [HX.out]
      go_roundw
      case rel => first | exact ⟨k + 1, by omega, by go_num, hr0'.setOther _ (by simp) _, HS.out ▸ hr1'.set k _, hrow'.setOther _ (by simp; omega) _, hbel'.setCell (by simp) _⟩ | ((repeat apply Exists.intro); exact ⟨⟨k + 1, by omega, by go_num, hr0'.setOther _ (by simp) _, HS.out ▸ hr1'.set k _, hrow'.setOther _ (by simp; omega) _, hbel'.setCell (by simp) _⟩, rfl⟩)
      case measure => simp [intOf]; omega
    · obtain rfl : k = 64 := by omega
      have hr3' : S.Row wr (w.heap.size + 1) 50 V.toList := by rw [HV.out]; exact hr1
      have HB := Lib.hid hbel
      have HVs := Lib.hid (show V.size = 64 by rw [HV.out]; rfl)
      have HV1 := Lib.hid (show V.all (·.oneCell') = true by rw [HV.out]; exact S.wvals_one S.K)
      clear hbel hr1 hlt hk
      go_wp2_with (first
        | (refine wpList_load_row rfl 50 (.tmp 1) rfl (w.heap.size + 1) rfl _ V (0, 0) _ hr3' Tryd.underlying50 rfl (by rw [HVs.out]; exact S.info_words) ?_)
        | (refine wpList_store_row rfl 50 (.tmp 0) (.tmp 18) rfl w.heap.size V rfl rfl _ _ hr0 (by rw [HVs.out]; exact S.info_words) (by rw [HVs.out]; rfl) HV1.out ?_))
      have hfin := setRow_heap wr w.heap.size _ V _ _ hr0
      exact bodyPost_ret (v := .agg V) (results_cell_row Tryd.results54 _ _ w.heap.size _ _ _ _ rfl hfin Tryd.underlying50 rfl (by rw [HVs.out]; exact S.info_words)) rfl ⟨rfl, below_setRow HB.out (Nat.le_refl _) _⟩
set_option maxRecDepth 100000 in
set_option maxHeartbeats 1000000 in
theorem RStart_any (w : World) :
    Calls Tryd.prog 55 #[] w fun e w' => e = .returned (.agg (S.vals S.start)) ∧ Below w.heap.size w w' := by
  obtain ⟨V, HV⟩ : ∃ V, Hid (V = (S.vals S.start)) := ⟨_, Lib.hid rfl⟩
  rw [← HV.out]
  obtain ⟨Q, HQ, HPC⟩ := Primes_is 8 (by decide)
  replace HPC := Lib.hid HPC
  go_enter Tryd.func55, Tryd.ntmps55
  go_wp2_with fail
  refine (HPC.out _).mono ?_
  rintro e w1 ⟨v, rfl, hown, hb1⟩
  have hr0 : S.Row w1 w.heap.size 56 (List.replicate 8 (S.wordV 0)) := ((S.Row.made w _ _ (by simp) rfl).alloc _).below hb1 (by simp; omega)
  have hr1 : S.Row w1 (w.heap.size + 1) 56 ((S.tab S.start.list 0).map S.wordV) := (S.Row.made _ _ _ (by simp) rfl).below hb1 (by simp)
  have hB := (((Below.refl _ w).alloc (Nat.le_refl _) _).alloc (by simp) _).trans (hb1.mono (by simp; omega))
  obtain ⟨g, c, cur, rfl, hg, hrow, HC⟩ := S.own_row hown HQ (by decide)
  simp at hg
  replace HC := Lib.hid HC
  clear hown hb1
  go_wp2_with fail
  go_loopw [3] (fun i wr => ∃ k : Nat, k ≤ 8 ∧ i = .int .i64 k ∧ S.Row wr w.heap.size 56 (List.replicate 8 (S.wordV 0)) ∧ S.Row wr (w.heap.size + 1) 56 ((S.tab S.start.list k).map S.wordV) ∧ S.Row wr g 48 cur ∧ Below w.heap.size w wr) (fun i _ => 8 - (intOf i).toNat)
  case atStart => exact ⟨0, Nat.zero_le _, rfl, hr0, hr1, hrow, hB⟩
  case round =>
    clear hr0 hr1 hrow hB
    obtain ⟨k, hk, rfl, hr0, hr1, hrow, hbel⟩ := hrel
    by_cases hlt : k < 8
    · obtain ⟨p, HP⟩ : ∃ p, p = Q.getD k 0 := ⟨_, rfl⟩
      have hp : p < 4294967296 := by rw [HP]; exact S.pr_lt HQ (by omega)
      have hc := hrow.cell (HC.out k hlt)
      rw [← HP] at hc
      have HR := Lib.hid (show S.rootN p false % 4294967296 = S.List.getD' S.start.list k by rw [HP]; exact S.roots_false HQ k hlt)
      have HS := Lib.hid (S.tab_set S.start.list (k := k) hlt)
      have HT := Lib.hid (fun w => root_any p hp false w)
      clear HP
      generalize S.rootN p false = rt at HR HT
      generalize S.List.getD' S.start.list k = x at HR HS
      have gk : (k : Int) < 8 := by omega
      go_wp2_with fail
      refine (HT.out _).mono ?_
      rintro e w2 ⟨rfl, hb2⟩
      have hl0 := hr0.lt
      have hlg := hrow.lt
      have hr0' := hr0.below hb2 hr0.lt
      have hr1' := hr1.below hb2 hr1.lt
      have hrow' := hrow.below hb2 hrow.lt
      have hbel' := hbel.trans (hb2.mono hbel.size)
      have cz := hr1'.cell (j := k) (S.tab_at S.start.list hlt)
      have fz := hr1'.frozen k
      have HX := Lib.hid (show ((rt : Int) % 4294967296) = (x : Int) by rw [← HR.out]; simp)
      clear hr0 hr1 hrow hbel hb2 hc
      go_wp2_with fail
      rw [HX.out]
      go_roundw
      case rel => first | exact ⟨k + 1, by omega, by go_num, hr0'.setOther _ (by simp) _, HS.out ▸ hr1'.set k _, hrow'.setOther _ (by simp; omega) _, hbel'.setCell (by simp) _⟩ | ((repeat apply Exists.intro); exact ⟨⟨k + 1, by omega, by go_num, hr0'.setOther _ (by simp) _, HS.out ▸ hr1'.set k _, hrow'.setOther _ (by simp; omega) _, hbel'.setCell (by simp) _⟩, rfl⟩)
      case measure => simp [intOf]; omega
    · obtain rfl : k = 8 := by omega
      have hr3' : S.Row wr (w.heap.size + 1) 56 V.toList := by rw [HV.out]; exact hr1
      have HB := Lib.hid hbel
      have HVs := Lib.hid (show V.size = 8 by rw [HV.out]; rfl)
      have HV1 := Lib.hid (show V.all (·.oneCell') = true by rw [HV.out]; exact S.wvals_one S.start.list)
      clear hbel hr1 hlt hk
      go_wp2_with (first
        | (refine wpList_load_row rfl 56 (.tmp 1) rfl (w.heap.size + 1) rfl _ V (0, 0) _ hr3' Tryd.underlying56 rfl (by rw [HVs.out]; exact S.info_eight) ?_)
        | (refine wpList_store_row rfl 56 (.tmp 0) (.tmp 18) rfl w.heap.size V rfl rfl _ _ hr0 (by rw [HVs.out]; exact S.info_eight) (by rw [HVs.out]; rfl) HV1.out ?_))
      have hfin := setRow_heap wr w.heap.size _ V _ _ hr0
      exact bodyPost_ret (v := .agg V) (results_cell_row Tryd.results55 _ _ w.heap.size _ _ _ _ rfl hfin Tryd.underlying56 rfl (by rw [HVs.out]; exact S.info_eight)) rfl ⟨rfl, below_setRow HB.out (Nat.le_refl _) _⟩
end Go.Proofs.YtgpgnfdbjljljaaDoor
