/- Arguments opened: a number, a slice of numbers, a slice of spans. -/
import Derived.Test.YtnehllkklmdpfaaDoorTmLaid
import Derived.Deep.SlicePairs
import Derived.ChangeSlices
set_option maxRecDepth 100000
namespace Go.Proofs.YtnehllkklmdpfaaDoor
open Go Go.ChangeShapes Go.WideShapes Go.ChangeAt Go.RowKit Go.ChangeMaps
open T (SV)
theorem open_num {H : Type} {enc : TypeId × Value → H} {W : World} {base : Nat} {v0 : Value} {d0 : DataW H} {p : List MemPlace} (hv : Value.okWide Tryd.prog W .any base 2 v0) (h : DataW.Trod enc Tryd.prog W 0 (fun _ => true) true 2 v0 d0 p) :
    ∃ z : Int, T.R64 z ∧ v0 = .int .i64 z := by
  obtain ⟨k, rfl, _, _, wk⟩ := open_int Tryd.underlying2 hv h
  have bk := bounds_i64 wk
  exact ⟨k, ⟨bk.1, by have := bk.2; omega⟩, rfl⟩
def intV : Value → Int
  | .int _ n => n
  | _ => 0
theorem open_spans {H : Type} {enc : TypeId × Value → H} {W : World} {base : Nat} {v0 : Value} {d0 : DataW H} {p : List MemPlace} (hv : Value.okWide Tryd.prog W .any base 29 v0) (h : DataW.Trod enc Tryd.prog W 0 (fun _ => true) true 29 v0 d0 p) :
    ∃ (A : Option Addr) (c m : Nat) (l : List SV), v0 = .slice A m c ∧ l.length = m ∧ SpIn W W.heap.size A c l := by
  obtain ⟨a0, len, cap, rfl⟩ := okWide_slice Tryd.underlying29 hv
  obtain ⟨fuel, hf⟩ := h
  rcases Deep.open_slice_pairs Tryd.underlying29 Tryd.underlying32 (by kernel_rfl) rfl rfl (by kernel_rfl) (by kernel_rfl) hf with ⟨hcs, _⟩ | ⟨a, len', cap', m, n, V0, V1, D0, D1, P0, P1, hcs, _, hl, hm, hmm, _, hx⟩
  · simp [Value.cells] at hcs
    obtain ⟨rfl, rfl, rfl⟩ := hcs
    exact ⟨none, 0, 0, [], rfl, rfl, SpIn.nil_ _ _⟩
  · simp [Value.cells] at hcs
    obtain ⟨rfl, rfl, rfl⟩ := hcs
    simp only [if_true] at hmm
    have hlen : ((List.range len).map fun i => ((intV (V0 i), intV (V1 i)) : SV)).length = len := by simp
    have each : ∀ k, k < len → (V0 k = .int .i64 (intV (V0 k)) ∧ T.R64 (intV (V0 k))) ∧ (V1 k = .int .i64 (intV (V1 k)) ∧ T.R64 (intV (V1 k))) := by
      intro k hk
      obtain ⟨c0, c1, t0, t1⟩ := hx k (by omega)
      obtain ⟨x, e0, _, w0⟩ := DataW.trod_int Tryd.underlying2 t0
      obtain ⟨y, e1, _, w1⟩ := DataW.trod_int Tryd.underlying2 t1
      simp only [List.cons.injEq, and_true] at e0 e1
      have b0 := bounds_i64 w0
      have b1 := bounds_i64 w1
      rw [e0, e1]
      exact ⟨⟨rfl, ⟨b0.1, by have := b0.2; show x ≤ _; omega⟩⟩, ⟨rfl, ⟨b1.1, by have := b1.2; show y ≤ _; omega⟩⟩⟩
    refine ⟨some a, cap, len, (List.range len).map fun i => (intV (V0 i), intV (V1 i)), rfl, hlen, ⟨by rw [hlen]; exact hl, hm, fun e => (by cases e), fun ad e k hk => ?_, fun s hs => ?_⟩⟩
    · injection e with e
      subst e
      rw [hlen] at hk
      obtain ⟨c0, c1, t0, t1⟩ := hx k (by omega)
      obtain ⟨⟨e0, _⟩, ⟨e1, _⟩⟩ := each k hk
      rw [e0] at c0
      rw [e1] at c1
      have hlt := World.block_lt_of_cell? W (a.add (k * 2)) c0
      rw [addr_block] at hlt
      simp only [List.getElem_map, List.getElem_range]
      exact ⟨hlt, c0, c1⟩
    · obtain ⟨k, hk, rfl⟩ := List.mem_map.1 hs
      obtain ⟨⟨_, b0⟩, ⟨_, b1⟩⟩ := each k (List.mem_range.1 hk)
      exact ⟨b0, b1⟩
/-- A slice of numbers of 64 bits. -/
structure NumIn (w : World) (B : Nat) (A : Option Addr) (c : Nat) (l : List Int) : Prop where
  le : l.length ≤ c
  cap : c ≤ maxLen
  none_ : A = none → l = [] ∧ c = 0
  cells : ∀ ad, A = some ad → ∀ k (h : k < l.length), ad.block < B ∧ w.cell? (ad.add k) = some (.int .i64 l[k])
  nums : ∀ z ∈ l, T.R64 z
theorem open_nums {H : Type} {enc : TypeId × Value → H} {W : World} {base : Nat} {v0 : Value} {d0 : DataW H} {p : List MemPlace} (hv : Value.okWide Tryd.prog W .any base 46 v0) (h : DataW.Trod enc Tryd.prog W 0 (fun _ => true) true 46 v0 d0 p) :
    ∃ (A : Option Addr) (c m : Nat) (l : List Int), v0 = .slice A m c ∧ l.length = m ∧ NumIn W W.heap.size A c l := by
  obtain ⟨a0, len, cap, rfl⟩ := okWide_slice Tryd.underlying46 hv
  obtain ⟨fuel, hf⟩ := h
  rcases open_ints Tryd.underlying46 Tryd.underlying2 (by kernel_rfl) hf with ⟨hcs, _⟩ | ⟨a, len', cap', zs, hcs, _, hl, hm, hz, _, hcell, hwz⟩
  · simp [Value.cells] at hcs
    obtain ⟨rfl, rfl, rfl⟩ := hcs
    exact ⟨none, 0, 0, [], rfl, rfl, ⟨Nat.le_refl _, by unfold maxLen; omega, fun _ => ⟨rfl, rfl⟩, fun _ e => (by cases e), by simp⟩⟩
  · simp [Value.cells] at hcs
    obtain ⟨rfl, rfl, rfl⟩ := hcs
    simp only [if_true] at hz
    have hlen : (zs.take len).length = len := by simp; omega
    refine ⟨some a, cap, len, zs.take len, rfl, hlen, ⟨by rw [hlen]; exact hl, hm, fun e => (by cases e), fun ad e k hk => ?_, fun z hz' => ?_⟩⟩
    · injection e with e
      subst e
      rw [hlen] at hk
      have hkz : k < zs.length := by omega
      have hc := hcell k hkz
      have hget : zs.getD k 0 = zs[k] := by rw [List.getD_eq_getElem?_getD, List.getElem?_eq_getElem hkz]; rfl
      rw [hget] at hc
      have hlt := World.block_lt_of_cell? W (a.add k) hc
      rw [addr_block] at hlt
      rw [List.getElem_take]
      exact ⟨hlt, hc⟩
    · have b := bounds_i64 (hwz z (List.mem_of_mem_take hz'))
      exact ⟨b.1, by have := b.2; omega⟩
end Go.Proofs.YtnehllkklmdpfaaDoor
