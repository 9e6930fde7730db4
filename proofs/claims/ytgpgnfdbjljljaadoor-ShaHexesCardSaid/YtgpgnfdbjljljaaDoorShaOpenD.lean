/- A digest and a string, as a call is handed them. -/
import Derived.Test.YtgpgnfdbjljljaaDoorShaOpen
import Derived.Test.YtgpgnfdbjljljaaDoorShaEq
import Derived.ChangeMaps5
set_option maxRecDepth 100000
namespace Go.Proofs.YtgpgnfdbjljljaaDoor
open Go Go.ChangeShapes Go.WideShapes Go.ChangeAt Go.RowKit Go.ChangeMaps
theorem open_arr_ints {H : Type} {enc : TypeId × Value → H} {W : World} {base n : Nat} {t e : TypeId} {k : IntKind} {v : Value} {d : DataW H} {p : List MemPlace} (ht : Tryd.prog.underlying t = some (.array n e)) (he : Tryd.prog.underlying e = some (.int k)) (hc : Tryd.prog.cellsOf e = 1) (hct : Tryd.prog.cellsOf t = n)
    (hv : Value.okWide Tryd.prog W .any base t v) (h : DataW.Trod enc Tryd.prog W 0 (fun _ => true) true t v d p) :
    ∃ zs : List Int, zs.length = n ∧ v = .agg (zs.map (Value.int k)).toArray ∧ ∀ z ∈ zs, (Lit.int k z).wf = true := by
  simp only [Value.okWide, ht] at hv
  obtain ⟨cs, rfl, h2, _⟩ := hv
  obtain ⟨fuel, hf⟩ := h
  obtain ⟨xs, m, _, _, hlen, hxs, hi⟩ := DataW.trod_array ht hf
  have hall : ∀ i, i < n → ∃ z, cs.toList[i]? = some (.int k z) ∧ (Lit.int k z).wf = true := by
    intro i hin
    have hx := hi i hin
    rw [hc, Nat.mul_one, List.getElem?_eq_getElem (by omega)] at hx
    obtain ⟨z, hz, _, hw⟩ := DataW.trod_int he hx
    refine ⟨z, ?_, hw⟩
    have : ((cs.toList.drop i).take 1)[0]? = some (.int k z) := by
      show ((List.drop i (Value.agg cs).cells.toList).take 1)[0]? = _
      rw [hz]; rfl
    rw [List.getElem?_take_of_lt (by decide), List.getElem?_drop, Nat.add_zero] at this
    exact this
  have hcl : cs.toList.length = n := by
    have h3 : cs.toList.length = Tryd.prog.cellsOf t := h2
    rw [h3, hct]
  have hmap : cs.toList = (cs.toList.map intOf).map (Value.int k) := by
    apply List.ext_getElem?
    intro i
    by_cases hin : i < n
    · obtain ⟨z, hz, _⟩ := hall i hin
      rw [List.getElem?_map, List.getElem?_map, hz]
      rfl
    · rw [List.getElem?_eq_none (by omega), List.getElem?_eq_none (by simp; omega)]
  refine ⟨cs.toList.map intOf, by simpa using hcl, ?_, ?_⟩
  · rw [← hmap]
  · intro z hz
    obtain ⟨i, hi1, hi2⟩ := List.mem_iff_getElem.1 hz
    have hin : i < n := by simp at hi1; omega
    obtain ⟨z', hz', hw⟩ := hall i hin
    have : (cs.toList.map intOf)[i]? = some z' := by rw [List.getElem?_map, hz']; rfl
    rw [List.getElem?_eq_getElem hi1, hi2] at this
    rw [Option.some.inj this]
    exact hw
theorem open_dig {H : Type} {enc : TypeId × Value → H} {W : World} {base : Nat} {v : Value} {d : DataW H} {p : List MemPlace}
    (hv : Value.okWide Tryd.prog W .any base 22 v) (h : DataW.Trod enc Tryd.prog W 0 (fun _ => true) true 22 v d p) : ∃ l : List UInt8, l.length = 32 ∧ v = .agg (l.map S.byteV).toArray := by
  obtain ⟨zs, hl, rfl, hw⟩ := open_arr_ints Tryd.underlying22 Tryd.underlying5 S.cells_byte (by kernel_rfl) hv h
  refine ⟨zs.map fun z => UInt8.ofNat z.toNat, by simpa using hl, ?_⟩
  rw [List.map_map]
  congr 2
  apply List.map_congr_left
  intro z hz
  have hb := bounds_u8 (hw z hz)
  show _ = Value.int .u8 ((UInt8.ofNat z.toNat).toNat : Int)
  rw [UInt8.toNat_ofNat']
  congr 1
  omega
theorem open_text {H : Type} {enc : TypeId × Value → H} {W : World} {base : Nat} {v : Value} {d : DataW H} {p : List MemPlace}
    (hv : Value.okWide Tryd.prog W .any base 9 v) (h : DataW.Trod enc Tryd.prog W 0 (fun _ => true) true 9 v d p) : ∃ s : List UInt8, v = .string ⟨s.toArray⟩ ∧ s.length ≤ 9223372036854775807 := by
  obtain ⟨s, rfl, _, _, hs⟩ := open_string Tryd.underlying9 hv h
  unfold maxLen at hs
  exact ⟨s.data.toList, rfl, by have : s.data.size ≤ 2 ^ 63 - 1 := hs; simpa using this⟩
end Go.Proofs.YtgpgnfdbjljljaaDoor
