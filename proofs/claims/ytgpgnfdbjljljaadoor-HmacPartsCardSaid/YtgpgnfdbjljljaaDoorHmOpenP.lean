/- An argument that is a slice of slices of bytes, opened. -/
import Derived.Test.YtgpgnfdbjljljaaDoorShaOpen
import Derived.Test.YtgpgnfdbjljljaaDoorHmPartsIn
import Derived.Deep.Slices
set_option maxRecDepth 100000
namespace Go.Proofs.YtgpgnfdbjljljaaDoor
open Go.ChangeShapes Go.WideShapes Go.ChangeAt Go.RowKit Go.Deep
theorem cells_rows : Tryd.prog.cellsOf 33 = 1 := by kernel_rfl
theorem open_parts {H : Type} {enc : TypeId × Value → H} {W : World} {base : Nat} {v0 : Value} {d0 : DataW H} {p : List MemPlace} (hv : Value.okWide Tryd.prog W .any base 73 v0) (h : DataW.Trod enc Tryd.prog W 0 (fun _ => true) true 73 v0 d0 p) :
    ∃ (A : Option Addr) (c : Nat) (ps : List (List UInt8)), v0 = .slice A ps.length c ∧ PartsIn W W.heap.size A ps ∧ ps.length ≤ 9223372036854775807 := by
  obtain ⟨a0, len, cap, rfl⟩ := okWide_slice Tryd.underlying73 hv
  obtain ⟨fuel, hf⟩ := h
  rcases open_slice1 Tryd.underlying73 cells_rows hf with ⟨hcs, _⟩ | ⟨a, len', cap', m, n, V, D, Pl, hcs, hb, hl, hm, hmm, _, hx⟩
  · simp [Value.cells] at hcs
    obtain ⟨rfl, rfl, rfl⟩ := hcs
    exact ⟨none, 0, [], rfl, ⟨fun i l h => by simp at h⟩, by simp⟩
  · simp [Value.cells] at hcs
    obtain ⟨rfl, rfl, rfl⟩ := hcs
    simp only [if_true] at hmm
    subst hmm
    have each : ∀ r, r < len → ∃ y : Option Addr × Nat × List UInt8, V r = .slice y.1 y.2.2.length y.2.1 ∧ BytesIn W W.heap.size y.1 y.2.1 y.2.2 := by
      intro r hr
      obtain ⟨A, c, l, h1, h2⟩ := bytes_of_trod (hx r (by omega)).2
      exact ⟨(A, c, l), h1, h2⟩
    obtain ⟨y, hy⟩ := choose_lt each
    have hlen : ((List.range len).map fun r => (y r).2.2).length = len := by simp
    unfold maxLen at hm
    refine ⟨some a, _, (List.range len).map fun r => (y r).2.2, by rw [hlen], ⟨fun i l hil => ?_⟩, by rw [hlen]; omega⟩
    have hi : i < len := by have := (List.getElem?_eq_some_iff.1 hil).1; rw [hlen] at this; exact this
    rw [List.getElem?_map, List.getElem?_range hi] at hil
    obtain rfl := Option.some.inj hil
    obtain ⟨h1, h2⟩ := hy i hi
    have hc := (hx i (by omega)).1
    have hlt := World.block_lt_of_cell? W (a.add i) hc
    rw [add_block] at hlt
    exact ⟨a, rfl, hlt, (y i).1, (y i).2.1, by rw [hc, h1], h2⟩
end Go.Proofs.YtgpgnfdbjljljaaDoor
