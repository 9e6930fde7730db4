/- Queues that are none. -/
import Derived.Test.YtdkfaepmgennjaaHpAwake
namespace Go.Proofs.Ytdkfaepmgennjaa
open Go.RowKit Go.Maps
open H (IT)
set_option linter.unusedSimpArgs false
set_option maxRecDepth 100000
/-- A queue that New and Load did not return. -/
def NotMade (w : World) (q : Option Addr) : Prop := q = none ∨ ∃ g, q = some ⟨g, 0, none⟩ ∧ w.cell? ⟨g, 0, none⟩ = some (.pointer none)
theorem NotMade.below {w w' : World} {q : Option Addr} (h : NotMade w q) (hb : Below w.heap.size w w') : NotMade w' q := by
  rcases h with rfl | ⟨g, rfl, hc⟩
  · exact .inl rfl
  · exact .inr ⟨g, rfl, by rw [hb.cell (World.block_lt_of_cell? w _ hc)]; exact hc⟩
theorem NisMade_any (q : Option Addr) (w : World) (hq : NotMade w q) : Calls Try.prog 48 #[.pointer q] w fun e w' => e = .returned (.bool false) ∧ w = w' := by
  rcases hq with rfl | ⟨g, rfl, c0⟩
  · go_enter Try.func48, Try.ntmps48
    go_wp2_with fail
    go_ret
    exact ⟨rfl, rfl⟩
  · have qP : ∀ w : World, (binOp .eql 27 (.pointer none) (.pointer (some ⟨g, 0, none⟩))).run Try.prog w = .ok (.bool false) w := fun w => by
      have h : ∀ d : Nat, (Op.equalIn (d + 1) 27 (.pointer none) (.pointer (some ⟨g, 0, none⟩))).run Try.prog w = .ok false w := fun d => by
        simp [Op.equalIn, run_underlying Try.underlying27]
      simp only [binOp]
      simp [Op.equal, Op.maxDepth, h 9999]
    go_enter Try.func48, Try.ntmps48
    go_wp2_with fail
    go_ret
    exact ⟨rfl, rfl⟩
theorem NPush_any (q : Option Addr) (va : Int) (w : World) (hq : NotMade w q) : Calls Try.prog 20 #[.pointer q, .int .i64 va] w fun e w' => e = .returned (.tuple #[.int .i64 0, .int .i64 1]) ∧ w = w' := by
  have HM := Lib.hid (NisMade_any q w hq)
  go_enter Try.func20, Try.ntmps20
  go_wp2_with fail
  refine HM.out.mono ?_
  rintro e w' ⟨rfl, rfl⟩
  go_wp2_with fail
  go_ret2
  exact ⟨rfl, rfl⟩
theorem NPeek_any (q : Option Addr) (w : World) (hq : NotMade w q) : Calls Try.prog 22 #[.pointer q] w fun e w' => e = .returned (.tuple #[.int .i64 0, .int .i64 0, .int .i64 1]) ∧ w = w' := by
  have HM := Lib.hid (NisMade_any q w hq)
  go_enter Try.func22, Try.ntmps22
  go_wp2_with fail
  refine HM.out.mono ?_
  rintro e w' ⟨rfl, rfl⟩
  go_wp2_with fail
  go_ret3
  exact ⟨rfl, rfl⟩
theorem NPop_any (q : Option Addr) (w : World) (hq : NotMade w q) : Calls Try.prog 21 #[.pointer q] w fun e w' => e = .returned (.tuple #[.int .i64 0, .int .i64 0, .int .i64 1]) ∧ w = w' := by
  have HM := Lib.hid (NPeek_any q w hq)
  go_enter Try.func21, Try.ntmps21
  go_wp2_with fail
  refine HM.out.mono ?_
  rintro e w' ⟨rfl, rfl⟩
  go_wp2_with fail
  go_ret3
  exact ⟨rfl, rfl⟩
theorem NplaceOf_any (q : Option Addr) (h : Int) (w : World) (hq : NotMade w q) : Calls Try.prog 53 #[.pointer q, .int .i64 h] w fun e w' => e = .returned (.tuple #[.int .i64 0, .int .i64 1]) ∧ w = w' := by
  have HM := Lib.hid (NisMade_any q w hq)
  go_enter Try.func53, Try.ntmps53
  go_wp2_with fail
  refine HM.out.mono ?_
  rintro e w' ⟨rfl, rfl⟩
  go_wp2_with fail
  go_ret2
  exact ⟨rfl, rfl⟩
theorem NGet_any (q : Option Addr) (h : Int) (w : World) (hq : NotMade w q) : Calls Try.prog 23 #[.pointer q, .int .i64 h] w fun e w' => e = .returned (.tuple #[.int .i64 0, .int .i64 1]) ∧ w = w' := by
  have HM := Lib.hid (NplaceOf_any q h w hq)
  go_enter Try.func23, Try.ntmps23
  go_wp2_with fail
  refine HM.out.mono ?_
  rintro e w' ⟨rfl, rfl⟩
  go_wp2_with fail
  go_ret2
  exact ⟨rfl, rfl⟩
theorem NRemove_any (q : Option Addr) (h : Int) (w : World) (hq : NotMade w q) : Calls Try.prog 24 #[.pointer q, .int .i64 h] w fun e w' => e = .returned (.tuple #[.int .i64 0, .int .i64 1]) ∧ w = w' := by
  have HM := Lib.hid (NplaceOf_any q h w hq)
  go_enter Try.func24, Try.ntmps24
  go_wp2_with fail
  refine HM.out.mono ?_
  rintro e w' ⟨rfl, rfl⟩
  go_wp2_with fail
  go_ret2
  exact ⟨rfl, rfl⟩
theorem NSet_any (q : Option Addr) (h y : Int) (w : World) (hq : NotMade w q) : Calls Try.prog 25 #[.pointer q, .int .i64 h, .int .i64 y] w fun e w' => e = .returned (.int .i64 1) ∧ w = w' := by
  have HM := Lib.hid (NplaceOf_any q h w hq)
  go_enter Try.func25, Try.ntmps25
  go_wp2_with fail
  refine HM.out.mono ?_
  rintro e w' ⟨rfl, rfl⟩
  go_wp2_with fail
  go_ret
  exact ⟨rfl, rfl⟩
theorem NLen_any (q : Option Addr) (w : World) (hq : NotMade w q) : Calls Try.prog 26 #[.pointer q] w fun e w' => e = .returned (.int .i64 0) ∧ w = w' := by
  have HM := Lib.hid (NisMade_any q w hq)
  go_enter Try.func26, Try.ntmps26
  go_wp2_with fail
  refine HM.out.mono ?_
  rintro e w' ⟨rfl, rfl⟩
  go_wp2_with fail
  go_ret
  exact ⟨rfl, rfl⟩
theorem results_cell_one {P : Program} {fn : Func} {p : Tmp} {ty : TypeId} (h : fn.results = #[.cell p ty]) (tmps : Array Value) (w : World) (g : Nat) (t : TypeId) (cs : Array Value) (fr : Nat × Nat) (d : TypeDesc)
    (hp : tmps.getD p undef = .pointer (some ⟨g, 0, none⟩)) (hg : w.heap[g]? = some (.cells cs t fr))
    (hu : P.underlying ty = some d) (hd : (match d with | .struct _ | .array _ _ => true | _ => false) = true) (hi : (P.info? ty).map (·.size) = some cs.size) :
    (results fn tmps).run P w = .ok (.agg cs) w := by
  have hp' : tmps[p]?.getD undef = .pointer (some ⟨g, 0, none⟩) := by simpa using hp
  simp only [results, h]
  simp [Sem.run_bind, Result.andThen, hp', asAddr, run_loadVar_row w g t ty cs fr d hg hu hd hi]
theorem NSave_any (q : Option Addr) (w : World) (hq : NotMade w q) : Calls Try.prog 17 #[.pointer q] w fun e w' => e = .returned (.agg #[.int .i64 0, .slice none 0 0]) ∧ Below w.heap.size w w' := by
  have HM := Lib.hid (NisMade_any q _ (hq.below (below_new w (.cells #[.int .i64 0, .slice none 0 0] 24))))
  have HB := Lib.hid (below_new w (.cells #[.int .i64 0, .slice none 0 0] 24))
  have HR := Lib.hid (heap_alloc_new w (.cells #[.int .i64 0, .slice none 0 0] 24))
  clear hq
  go_enter Try.func17, Try.ntmps17
  go_wp2_with fail
  refine HM.out.mono ?_
  rintro e w' ⟨rfl, rfl⟩
  go_wp2_with fail
  trace_state
  refine bodyPost_ret (results_cell_one rfl _ _ w.heap.size _ _ _ _ rfl HR.out Try.underlying24 rfl (by kernel_rfl)) rfl ?_
  exact ⟨rfl, HB.out⟩
end Go.Proofs.Ytdkfaepmgennjaa
