/- Arrays of integers that are the same are equal. -/
import Derived.Test.YtgpgnfdbjljljaaDoorShaShown
import Derived.Laws.StructEq
namespace Go.Proofs.YtgpgnfdbjljljaaDoor
open Go.RowKit
namespace S
section
variable {P : Program}
theorem run_items_same (w : World) (d : Nat) (e : TypeId) (k k' : IntKind) (cs : Array Value) (he : P.underlying e = some (.int k')) (hp : P.plainKey e = true) : ∀ (is : List Nat), (∀ i ∈ is, ∃ z, cs[i]? = some (.int k z)) →
    (Op.eqItems (d + 1) e 1 cs cs is).run P w = .ok true w
  | [], _ => by simp [Op.eqItems]
  | i :: is, h => by
    obtain ⟨z, hz⟩ := h i (by simp)
    have h1 := run_part_plain w hp hz
    have h2 := run_equalIn_int (P := P) w d e k k' z z he
    have ih := run_items_same w d e k k' cs he hp is (fun j hj => h j (by simp [hj]))
    simp [Op.eqItems, Sem.run_bind, h1, h2, ih]
theorem run_eql_same (w : World) (t e n : Nat) (k k' : IntKind) (cs : Array Value) (hu : P.underlying t = some (.array n e)) (he : P.underlying e = some (.int k')) (hp : P.plainKey e = true) (hc : P.cellsOf e = 1) (hcs : ∀ i, i < n → ∃ z, cs[i]? = some (.int k z)) :
    (Op.equalIn 10000 t (.agg cs) (.agg cs)).run P w = .ok true w := by
  obtain ⟨i, hi⟩ := info_of_underlying he
  rw [show (10000 : Nat) = 9999 + 1 from rfl, run_equalIn_array w 9999 cs cs hu hi, hc]
  exact run_items_same w 9998 e k k' cs he hp _ (fun j hj => hcs j (by simpa using hj))
end
theorem cells_byte : Tryd.prog.cellsOf 5 = 1 := by kernel_rfl
theorem cells_word : Tryd.prog.cellsOf 49 = 1 := by kernel_rfl
theorem eq_d32 (l : List UInt8) (hl : l.length = 32) (w : World) : (Op.equalIn 10000 22 (.agg (l.map byteV).toArray) (.agg (l.map byteV).toArray)).run Tryd.prog w = .ok true w :=
  run_eql_same w _ 5 32 .u8 .u8 _ Tryd.underlying22 Tryd.underlying5 plain_byte cells_byte (fun i hi => ⟨_, by rw [List.getElem?_toArray]; exact byte_get l (by omega)⟩)
theorem eq_eight (s : St) (w : World) : (Op.equalIn 10000 56 (.agg (vals s)) (.agg (vals s))).run Tryd.prog w = .ok true w :=
  run_eql_same w _ 49 8 .u32 .u32 _ Tryd.underlying56 Tryd.underlying49 plain_word cells_word (fun _ hi => ⟨_, list_at s hi⟩)
theorem eq_w64 (W : List Nat) (hW : W.length = 64) (w : World) : (Op.equalIn 10000 50 (.agg (W.map wordV).toArray) (.agg (W.map wordV).toArray)).run Tryd.prog w = .ok true w :=
  run_eql_same w _ 49 64 .u32 .u32 _ Tryd.underlying50 Tryd.underlying49 plain_word cells_word (fun _ hi => ⟨_, ws_at hW hi⟩)
theorem guard_d32 : Tryd.prog.eqGuardType Tryd.prog.depth 22 = false := by kernel_rfl
theorem guard_eight : Tryd.prog.eqGuardType Tryd.prog.depth 56 = false := by kernel_rfl
theorem guard_w64 : Tryd.prog.eqGuardType Tryd.prog.depth 50 = false := by kernel_rfl
end S
end Go.Proofs.YtgpgnfdbjljljaaDoor
