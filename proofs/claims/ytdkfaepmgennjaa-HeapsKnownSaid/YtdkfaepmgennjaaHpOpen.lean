/- A slice of numbers that was handed in, opened. -/
import Derived.Test.YtdkfaepmgennjaaHpPost
import Derived.Test.YtdkfaepmgennjaaHpMade
import Derived.ChangeSlices
namespace Go.Proofs.Ytdkfaepmgennjaa
open Go Go.ChangeShapes Go.WideShapes Go.ChangeAt Go.RowKit Go.ChangeMaps
set_option maxRecDepth 100000
theorem open_nums {H : Type} {enc : TypeId × Value → H} {W : World} {base : Nat} {v0 : Value} {d0 : DataW H} {p : List MemPlace} (hv : Value.okWide Try.prog W .any base 58 v0) (h : DataW.Trod enc Try.prog W 0 (fun _ => true) true 58 v0 d0 p) :
    ∃ (A : Option Addr) (c m : Nat) (l : List Int), v0 = .slice A m c ∧ l.length = m ∧ NumIn W W.heap.size A c l := by
  obtain ⟨a0, len, cap, rfl⟩ := okWide_slice Try.underlying58 hv
  obtain ⟨fuel, hf⟩ := h
  rcases open_ints Try.underlying58 Try.underlying3 (by kernel_rfl) hf with ⟨hcs, _⟩ | ⟨a, len', cap', zs, hcs, _, hl, hm, hz, _, hcell, hwz⟩
  · simp [Value.cells] at hcs
    obtain ⟨rfl, rfl, rfl⟩ := hcs
    exact ⟨none, 0, 0, [], rfl, rfl, ⟨Nat.le_refl _, by unfold maxLen; omega, fun _ => ⟨rfl, rfl⟩, fun _ e => (by cases e)⟩⟩
  · simp [Value.cells] at hcs
    obtain ⟨rfl, rfl, rfl⟩ := hcs
    simp only [if_true] at hz
    have hlen : (zs.take len).length = len := by simp; omega
    refine ⟨some a, cap, len, zs.take len, rfl, hlen, ⟨by rw [hlen]; exact hl, hm, fun e => (by cases e), fun ad e k hk => ?_⟩⟩
    injection e with e
    subst e
    rw [hlen] at hk
    have hkz : k < zs.length := by omega
    have hc := hcell k hkz
    have hget : zs.getD k 0 = zs[k] := by rw [List.getD_eq_getElem?_getD, List.getElem?_eq_getElem hkz]; rfl
    rw [hget] at hc
    have hlt := World.block_lt_of_cell? W (a.add k) hc
    rw [addr_block] at hlt
    rw [List.getElem_take]
    exact ⟨hlt, hc⟩
theorem open_by {H : Type} {enc : TypeId × Value → H} {W : World} {base : Nat} {v0 : Value} {d0 : DataW H} {p : List MemPlace} (hv : Value.okWide Try.prog W .any base 5 v0) (h : DataW.Trod enc Try.prog W 0 (fun _ => true) true 5 v0 d0 p) :
    ∃ b : Nat, b < 256 ∧ v0 = .int .u8 (b : Int) := by
  obtain ⟨k, rfl, _, _, wk⟩ := open_int Try.underlying5 hv h
  have bk := bounds_u8 wk
  obtain ⟨b, rfl⟩ := Int.eq_ofNat_of_zero_le bk.1
  exact ⟨b, by omega, rfl⟩
end Go.Proofs.Ytdkfaepmgennjaa
