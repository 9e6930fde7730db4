/- An argument that is a slice of bytes, opened. -/
import Derived.Test.YtgpgnfdbjljljaaDoorShaLaid
import Derived.ChangeSlices
set_option maxRecDepth 100000
namespace Go.Proofs.YtgpgnfdbjljljaaDoor
open Go.ChangeShapes Go.WideShapes Go.ChangeAt Go.RowKit
theorem cells_u8 : Tryd.prog.cellsOf 5 = 1 := by kernel_rfl
theorem open_bytes_in {H : Type} {enc : TypeId × Value → H} {W : World} {base : Nat} {v0 : Value} {d0 : DataW H} {p : List MemPlace} (hv : Value.okWide Tryd.prog W .any base 33 v0) (h : DataW.Trod enc Tryd.prog W 0 (fun _ => true) true 33 v0 d0 p) :
    ∃ (A : Option Addr) (c : Nat) (l : List UInt8), v0 = .slice A l.length c ∧ BytesIn W W.heap.size A c l := by
  obtain ⟨a0, len, cap, rfl⟩ := okWide_slice Tryd.underlying33 hv
  obtain ⟨fuel, hf⟩ := h
  rcases open_ints Tryd.underlying33 Tryd.underlying5 cells_u8 hf with ⟨hcs, _⟩ | ⟨a, len', cap', zs, hcs, _, hl, hm, hz, _, hcell, hwz⟩
  · simp [Value.cells] at hcs
    obtain ⟨rfl, rfl, rfl⟩ := hcs
    exact ⟨none, 0, [], rfl, BytesIn.nil_ _ _⟩
  · simp [Value.cells] at hcs
    obtain ⟨rfl, rfl, rfl⟩ := hcs
    simp only [if_true] at hz
    have hlen : ((zs.take len).map fun n : Int => UInt8.ofNat n.toNat).length = len := by simp; omega
    refine ⟨some a, cap, (zs.take len).map fun n => UInt8.ofNat n.toNat, by rw [hlen], by rw [hlen]; exact hl, hm, fun e => (by cases e), fun ad e j u hu => ?_⟩
    injection e with e
    subst e
    obtain ⟨n, hn, rfl⟩ : ∃ n, (zs.take len)[j]? = some n ∧ UInt8.ofNat n.toNat = u := by
      rw [List.getElem?_map, Option.map_eq_some_iff] at hu
      exact hu
    have hj : j < len := by
      have := (List.getElem?_eq_some_iff.1 hn).1
      rw [List.length_take] at this
      omega
    have hjz : j < zs.length := by omega
    have hn' : zs[j]? = some n := by rw [List.getElem?_take, if_pos hj] at hn; exact hn
    have hc := hcell j hjz
    have hget : zs.getD j 0 = n := by rw [List.getD_eq_getElem?_getD, hn']; rfl
    rw [hget] at hc
    have hb := bounds_u8 (hwz n (List.mem_of_getElem? hn'))
    have hv : Value.int .u8 n = S.byteV (UInt8.ofNat n.toNat) := by
      unfold S.byteV
      rw [UInt8.toNat_ofNat']
      congr 1
      omega
    have hlt := World.block_lt_of_cell? W (a.add j) hc
    rw [add_block] at hlt
    exact ⟨hlt, by rw [hc, hv]⟩
theorem bytes_of_trod {H : Type} {enc : TypeId × Value → H} {W : World} {fuel : Nat} {v : Value} {x : DataW H × List MemPlace} (hf : DataW.trod enc Tryd.prog W 0 (fun _ => true) true fuel 33 [v] = some x) :
    ∃ (A : Option Addr) (c : Nat) (l : List UInt8), v = .slice A l.length c ∧ BytesIn W W.heap.size A c l := by
  rcases open_ints Tryd.underlying33 Tryd.underlying5 cells_u8 hf with ⟨hcs, _⟩ | ⟨a, len, cap, zs, hcs, _, hl, hm, hz, _, hcell, hwz⟩
  · simp at hcs
    subst hcs
    exact ⟨none, 0, [], rfl, BytesIn.nil_ _ _⟩
  · simp at hcs
    subst hcs
    simp only [if_true] at hz
    have hlen : ((zs.take len).map fun n : Int => UInt8.ofNat n.toNat).length = len := by simp; omega
    refine ⟨some a, cap, (zs.take len).map fun n => UInt8.ofNat n.toNat, by rw [hlen], by rw [hlen]; exact hl, hm, fun e => (by cases e), fun ad e j u hu => ?_⟩
    injection e with e
    subst e
    obtain ⟨n, hn, rfl⟩ : ∃ n, (zs.take len)[j]? = some n ∧ UInt8.ofNat n.toNat = u := by
      rw [List.getElem?_map, Option.map_eq_some_iff] at hu
      exact hu
    have hj : j < len := by
      have := (List.getElem?_eq_some_iff.1 hn).1
      rw [List.length_take] at this
      omega
    have hjz : j < zs.length := by omega
    have hn' : zs[j]? = some n := by rw [List.getElem?_take, if_pos hj] at hn; exact hn
    have hc := hcell j hjz
    have hget : zs.getD j 0 = n := by rw [List.getD_eq_getElem?_getD, hn']; rfl
    rw [hget] at hc
    have hb := bounds_u8 (hwz n (List.mem_of_getElem? hn'))
    have hv : Value.int .u8 n = S.byteV (UInt8.ofNat n.toNat) := by
      unfold S.byteV
      rw [UInt8.toNat_ofNat']
      congr 1
      omega
    have hlt := World.block_lt_of_cell? W (a.add j) hc
    rw [add_block] at hlt
    exact ⟨hlt, by rw [hc, hv]⟩
end Go.Proofs.YtgpgnfdbjljljaaDoor
