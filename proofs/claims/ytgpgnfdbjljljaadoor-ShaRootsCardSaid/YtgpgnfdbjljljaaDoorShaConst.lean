/- Contracts of package sha: Constants, Start, Pad, Hex. -/
import Derived.Test.YtgpgnfdbjljljaaDoorShaBlock
import Derived.Laws.MakeOwn
import Derived.OwnWalk
import Derived.Laws.OwnMore
import Derived.Laws.IdiomStrings
import Derived.Laws.Strings
namespace Go.Proofs.YtgpgnfdbjljljaaDoor
open Go.RowKit
namespace S
theorem wvals_one (l : List Nat) : ((l.map wordV).toArray).all (·.oneCell') = true := by simp [wordV, Value.oneCell']
theorem bvals_one (l : List UInt8) : ((l.map byteV).toArray).all (·.oneCell') = true := by simp [byteV, Value.oneCell']
end S
set_option maxRecDepth 100000 in
set_option maxHeartbeats 400000 in
theorem Constants_any (w : World) (hK : S.SLaid w) :
    Calls Tryd.prog 27 #[] w fun e w' => e = .returned (.agg (S.K.map S.wordV).toArray) ∧ Below w.heap.size w w' := by
  have hlt := hK.lt
  obtain ⟨⟨t, fr, hk⟩, _⟩ := hK
  have hk' : ∀ o, (w.alloc o).heap[0]? = some (.cells (S.K.map S.wordV).toArray t fr) := fun o => (Below.heap_alloc w o _ (by omega)).trans hk
  have HK := Lib.hid hk'
  obtain ⟨KL, HKL⟩ : ∃ KL, KL = (S.K.map S.wordV).toArray := ⟨_, rfl⟩
  have HKs := Lib.hid (show KL.size = 64 by rw [HKL]; rfl)
  have HK1 := Lib.hid (show KL.all (·.oneCell') = true by rw [HKL]; exact S.wvals_one _)
  rw [← HKL] at HK ⊢
  clear hk hk' HKL
  go_enter Tryd.func27, Tryd.ntmps27
  go_wp2_with (first
    | (refine wpList_load_row rfl 50 (.global 0) rfl 0 rfl t KL fr _ (HK.out _) Tryd.underlying50 rfl (by rw [HKs.out]; exact S.info_words) ?_)
    | (refine wpList_store_row rfl 50 (.tmp 0) (.tmp 1) rfl w.heap.size KL rfl rfl _ _ (S.Row.new _ _ _) (by rw [HKs.out]; exact S.info_words) (by rw [HKs.out]; rfl) HK1.out ?_))
  have hfin := setRow_heap _ w.heap.size _ KL _ _ (S.Row.new w 50 (Array.replicate 64 (S.wordV 0)))
  refine bodyPost_ret (v := .agg KL) (results_cell_row Tryd.results27 _ _ w.heap.size _ _ _ _ rfl hfin Tryd.underlying50 rfl (by rw [HKs.out]; exact S.info_words)) rfl ⟨rfl, below_setRow ((Below.refl _ _).alloc (Nat.le_refl _) _) (Nat.le_refl _) _⟩
set_option maxRecDepth 100000 in
set_option maxHeartbeats 400000 in
theorem Start_any (w : World) (hK : S.SLaid w) :
    Calls Tryd.prog 29 #[] w fun e w' => e = .returned (.agg (S.vals S.start)) ∧ Below w.heap.size w w' := by
  have hlt := hK.lt
  obtain ⟨_, ⟨t, fr, hk⟩⟩ := hK
  have hk' : ∀ o, (w.alloc o).heap[1]? = some (.cells (S.vals S.start) t fr) := fun o => (Below.heap_alloc w o _ (by omega)).trans hk
  have HK := Lib.hid hk'
  obtain ⟨KL, HKL⟩ : ∃ KL, KL = S.vals S.start := ⟨_, rfl⟩
  have HKs := Lib.hid (show KL.size = 8 by rw [HKL]; rfl)
  have HK1 := Lib.hid (show KL.all (·.oneCell') = true by rw [HKL]; exact S.vals_one _)
  rw [← HKL] at HK ⊢
  clear hk hk' HKL
  go_enter Tryd.func29, Tryd.ntmps29
  go_wp2_with (first
    | (refine wpList_load_row rfl 56 (.global 1) rfl 1 rfl t KL fr _ (HK.out _) Tryd.underlying56 rfl (by rw [HKs.out]; exact S.info_eight) ?_)
    | (refine wpList_store_row rfl 56 (.tmp 0) (.tmp 1) rfl w.heap.size KL rfl rfl _ _ (S.Row.new _ _ _) (by rw [HKs.out]; exact S.info_eight) (by rw [HKs.out]; rfl) HK1.out ?_))
  have hfin := setRow_heap _ w.heap.size _ KL _ _ (S.Row.new w 56 (Array.replicate 8 (S.wordV 0)))
  refine bodyPost_ret (v := .agg KL) (results_cell_row Tryd.results29 _ _ w.heap.size _ _ _ _ rfl hfin Tryd.underlying56 rfl (by rw [HKs.out]; exact S.info_eight)) rfl ⟨rfl, below_setRow ((Below.refl _ _).alloc (Nat.le_refl _) _) (Nat.le_refl _) _⟩
end Go.Proofs.YtgpgnfdbjljljaaDoor
