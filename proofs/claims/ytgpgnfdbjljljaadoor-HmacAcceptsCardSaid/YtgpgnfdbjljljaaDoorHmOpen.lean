/- Arguments that are a byte, and a change, opened. -/
import Derived.Test.YtgpgnfdbjljljaaDoorShaOpen
set_option maxRecDepth 100000
namespace Go.Proofs.YtgpgnfdbjljljaaDoor
open Go.Joins Go.ChangeShapes Go.WideShapes Go.ChangeAt Go.RowKit Go.Deep
theorem open_byte {H : Type} {enc : TypeId × Value → H} {W : World} {base : Nat} {v0 : Value} {d0 : DataW H} {p : List MemPlace} (hv : Value.okWide Tryd.prog W .any base 5 v0) (h : DataW.Trod enc Tryd.prog W 0 (fun _ => true) true 5 v0 d0 p) :
    ∃ z : Nat, z < 256 ∧ v0 = .int .u8 z := by
  obtain ⟨k, rfl, _, _, wk⟩ := open_int Tryd.underlying5 hv h
  have bk := bounds_u8 wk
  exact ⟨k.toNat, by omega, by rw [Int.toNat_of_nonneg bk.1]⟩
theorem open_change {H : Type} {enc : TypeId × Value → H} {W : World} {base : Nat} {v0 : Value} {d0 : DataW H} {p : List MemPlace} (hv : Value.okWide Tryd.prog W .any base 69 v0) (h : DataW.Trod enc Tryd.prog W 0 (fun _ => true) true 69 v0 d0 p) :
    ∃ x y : Nat, x < 256 ∧ y < 256 ∧ v0 = .agg #[.int .u8 x, .int .u8 y] := by
  obtain ⟨x0, x1, y0, y1, n, rfl, rfl, rfl, g0, g1⟩ := open_agg2 Tryd.underlying69 (by kernel_rfl) (by kernel_rfl) hv h
  obtain ⟨a, e0, _, wa⟩ := DataW.trod_int Tryd.underlying5 g0
  obtain ⟨b, e1, _, wb⟩ := DataW.trod_int Tryd.underlying5 g1
  simp only [List.cons.injEq, and_true] at e0 e1
  have ba := bounds_u8 wa
  have bb := bounds_u8 wb
  refine ⟨a.toNat, b.toNat, by omega, by omega, ?_⟩
  rw [e0, e1, Int.toNat_of_nonneg ba.1, Int.toNat_of_nonneg bb.1]
end Go.Proofs.YtgpgnfdbjljljaaDoor
