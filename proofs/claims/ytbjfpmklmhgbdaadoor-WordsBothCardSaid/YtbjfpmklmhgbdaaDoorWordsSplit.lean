/- Contracts of words.tooLong and words.Split. -/
import Derived.Test.YtbjfpmklmhgbdaaDoorWordsIter5
namespace Go.Proofs.YtbjfpmklmhgbdaaDoor
open Go.RowKit Go.Shelf
theorem fCells_len (fs : List FV) : (fCells fs).length = fs.length * 2 := by
  unfold fCells
  induction fs with
  | nil => rfl
  | cons f fs ih => simp only [List.flatMap_cons, List.length_append, ih, List.length_cons, List.length_nil]; omega
theorem fCells_at : ∀ (fs : List FV) (k : Nat) (h : k < fs.length), (fCells fs)[2 * k]? = some (.string ⟨(fs[k]).1.toArray⟩) ∧ (fCells fs)[2 * k + 1]? = some (.bool (fs[k]).2)
  | f :: fs, 0, _ => ⟨rfl, rfl⟩
  | f :: fs, k + 1, h => by
    have ih := fCells_at fs k (by simpa using h)
    have e : fCells (f :: fs) = .string ⟨f.1.toArray⟩ :: .bool f.2 :: fCells fs := rfl
    rw [e, show 2 * (k + 1) = 2 * k + 1 + 1 from by omega, show 2 * k + 1 + 1 + 1 = (2 * k + 1) + 1 + 1 from rfl]
    simp only [List.getElem?_cons_succ, List.getElem_cons_succ]
    exact ih
namespace W
/-- No field before place k is too long. -/
def Shorts (fs : List FV) (k : Nat) : Prop := ∀ i (h : i < fs.length), i < k → (fs[i]).1.length ≤ 2000
theorem long_yes {fs : List FV} {k : Nat} (hk : k < fs.length) (h : 2000 < (fs[k]).1.length) : longF fs = true := by
  unfold longF
  rw [Bool.or_eq_true]
  exact Or.inl (List.any_eq_true.2 ⟨_, List.getElem_mem hk, by simpa using h⟩)
theorem long_end {fs : List FV} (h : Shorts fs fs.length) : longF fs = decide (64 < fs.length) := by
  have : fs.any (fun f => decide (2000 < f.1.length)) = false := by
    rw [List.any_eq_false]
    intro f hf
    obtain ⟨i, hi, rfl⟩ := List.getElem_of_mem hf
    have := h i hi hi
    simpa using this
  unfold longF
  rw [this, Bool.false_or]
end W

set_option maxRecDepth 100000 in
set_option maxHeartbeats 2000000 in
theorem tooLong_any (base : Nat) (v : Value) (fs : List FV) (w : World) (hown : w.ownsRow base 45 2 v fs.length (fCells fs)) (hlen : fs.length ≤ 140737488351232) :
    Calls Tryd.prog 43 #[v] w fun e w' => e = .returned (.bool (W.longF fs)) ∧ Below w.heap.size w w' := by
  rcases hown.2 with ⟨rfl, h0⟩ | ⟨g, cap, cur, rfl, hg, hblk, hle, hcap, hcs, htk⟩
  · have hfs : fs = [] := List.length_eq_zero_iff.1 h0
    subst hfs
    go_enter Tryd.func43, Tryd.ntmps43
    go_wp2_with fail
    refine wp_loop_rounds 1 ?_
    rw [rounds_succ]
    go_wp2_with fail
    go_ret
    exact ⟨rfl, Below.refl _ _⟩
  · have hgs : g < w.heap.size := (Array.getElem?_eq_some_iff.1 hblk).1
    have hcell := hown.cellAt
    have Hcell := Lib.hid hcell
    clear hcell htk hcs hblk hown
    obtain ⟨m, hm⟩ : ∃ m, fs.length = m := ⟨_, rfl⟩
    have Hm := Lib.hid hm
    rw [hm] at hlen hle ⊢
    clear hm
    go_enter Tryd.func43, Tryd.ntmps43
    go_wp2_with fail
    go_loopw [7] (fun i wr => ∃ k : Nat, k ≤ m ∧ i = .int .i64 k ∧ W.Shorts fs k ∧ Below w.heap.size w wr) (fun i _ => m - (intOf i).toNat)
    case atStart => exact ⟨0, Nat.zero_le _, rfl, fun i _ hi => absurd hi (by omega), Below.refl _ _⟩
    case round =>
      obtain ⟨k, hk, rfl, hsh, hbel⟩ := hrel
      by_cases hlt : k < m
      · have hkf : k < fs.length := by rw [Hm.out]; exact hlt
        obtain ⟨s, q, hsq⟩ : ∃ s q, fs[k]'hkf = (s, q) := ⟨_, _, rfl⟩
        have h1 : wr.cell? ⟨g, k * 2, none⟩ = some (.string ⟨s.toArray⟩) := by
          rw [hbel.cell (p := ⟨g, k * 2, none⟩) hgs, Hcell.out _ (by rw [Hm.out]; omega), Nat.mul_comm k 2, (fCells_at fs k hkf).1, hsq]
        have h2 : wr.cell? ⟨g, k * 2 + 1, none⟩ = some (.bool q) := by
          rw [hbel.cell (p := ⟨g, k * 2 + 1, none⟩) hgs, Hcell.out _ (by rw [Hm.out]; omega), Nat.mul_comm k 2, (fCells_at fs k hkf).2, hsq]
        have Hsq := Lib.hid hsq
        have hsz := hbel.size
        clear hsq
        by_cases hl : 2000 < s.length
        · go_wp2_with fail
          go_ret
          exact ⟨ret_bool (W.long_yes hkf (by rw [Hsq.out]; exact hl)), hbel.alloc hsz _⟩
        · go_wp2_with fail
          go_roundw
          case rel =>
            refine ⟨k + 1, by omega, by go_num, fun i hi hik => ?_, hbel.alloc hsz _⟩
            by_cases e : i = k
            · subst e
              rw [Hsq.out]
              show s.length ≤ 2000
              omega
            · exact hsh i hi (by omega)
          case measure => simp [intOf]; omega
      · have hkm : k = m := by omega
        have Hkm := Lib.hid hkm
        clear hkm
        go_wp2_with fail
        go_ret
        refine ⟨ret_bool ?_, hbel⟩
        rw [W.long_end (by rw [Hm.out, ← Hkm.out]; exact hsh), Hm.out]
        rw [Bool.eq_iff_iff, decide_eq_true_iff, decide_eq_true_iff]
        omega
end Go.Proofs.YtbjfpmklmhgbdaaDoor
