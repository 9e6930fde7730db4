/- All and walked of a queue that is none. -/
import Derived.Test.YtdkfaepmgennjaaHpRange
import Derived.Shelf.Abstract
import Derived.OwnWalkIn
import Derived.TacticsInMore
namespace Go.Proofs.Ytdkfaepmgennjaa
open Go.RowKit Go.Shelf
attribute [local go_sem] Oper.semAt_some
set_option linter.unusedSimpArgs false
set_option maxRecDepth 100000
theorem All_any (q : Option Addr) (w : World) : Calls Try.prog 34 #[.pointer q] w fun e w' => e = .returned (.func (.func 59) #[] #[.pointer (some ⟨w.heap.size, 0, none⟩)]) ∧ w' = w.alloc (.cells #[.pointer q] 27) := by
  have hmf : ∀ (fn : Fn) (first cap : Array Value) (w : World), (Instr.makeFunc fn first cap).run Try.prog w = .ok (.func fn first cap) w := fun _ _ _ _ => rfl
  go_enter Try.func34, Try.ntmps34
  go_wp2_with fail
  go_ret
  exact ⟨rfl, rfl⟩
theorem NAll1_any (q : Option Addr) (c0 l : Nat) (w : World) (hq : NotMade w q) (hc : w.cell? ⟨c0, 0, none⟩ = some (.pointer q)) : Calls Try.prog 59 #[.func (.yield l) #[] #[], .pointer (some ⟨c0, 0, none⟩)] w fun e w' => (∃ v, e = .returned v) ∧ Below w.heap.size w w' := by
  have HS := Lib.hid (NSave_any q w hq)
  have qf : ∀ (a b : Value) (w : World), (Instr.field 24 (.agg #[a, b]) 1).run Try.prog w = .ok b w := fun _ _ _ => by kernel_rfl
  clear hq
  go_enter Try.func59, Try.ntmps59
  go_wp2_with fail
  refine HS.out.mono ?_
  rintro e w1 ⟨rfl, hb⟩
  go_wp2_with fail
  go_loop [9] (fun i => i = .int .i64 0) (fun _ => 0)
  case atStart => exact rfl
  case round =>
    subst hrel
    go_wp2_with fail
    go_end0
    exact ⟨⟨_, rfl⟩, hb⟩
theorem gdrew_ {a w : World} (h : Below a.heap.size a w) (b : Nat) : a.grownBy w (some b) := ⟨h.os, h.tape, h.output, h.size, fun k hk _ => h.block k hk⟩
/-- The iterator of a queue that is none yields nothing. -/
theorem NAll1_iter (q : Option Addr) (c0 b : Nat) (W : World) (hq : NotMade W q) (hc : W.cell? ⟨c0, 0, none⟩ = some (.pointer q)) (hb : W.heap.size + 2 = b) :
    IterC (α := Empty) Fence.wide 2 Try.prog 59 #[.pointer (some ⟨c0, 0, none⟩)] (fun x => x.elim) b 0 (fun k => k < W.heap.size) (fun xs => xs = []) (fun _ => False) W := by
  intro l J Jx W0 hW0 hkp hJ hJx hY h0
  have hbel : ∀ a v, W.cell? a = some v → W0.cell? a = some v := fun a v h => by
    have hl := World.block_lt_of_cell? W a h
    rw [World.cell?_of_block (hkp a.block hl (by omega))]
    exact h
  have hq0 : NotMade W0 q := by
    rcases hq with rfl | ⟨g, rfl, hg⟩
    · exact .inl rfl
    · exact .inr ⟨g, rfl, hbel _ _ hg⟩
  refine (callsIn_wide.2 (NAll1_any q c0 l W0 hq0 (hbel _ _ hc))).mono ?_
  rintro e W' ⟨he, hb'⟩
  exact ⟨he, .inl ⟨[], rfl, hJ _ _ _ h0 (gdrew_ hb' _)⟩⟩
set_option maxHeartbeats 4000000 in
theorem Nwalked_any (q : Option Addr) (w : World) (hq : NotMade w q) : Calls Try.prog 19 #[.pointer q] w fun e w' => e = .returned (.slice none 0 0) ∧ Below w.heap.size w w' := by
  refine (callsIn_wide (n := 3)).1 ?_
  refine callsIn_of_wp_marks Try.func19 rfl trivial ?_ rfl
  simp only [Try.ntmps19, List.size_toArray, List.length_cons, List.length_nil, Nat.reduceAdd, Nat.reduceSub, Array.replicate_succ, Array.replicate_zero, List.push_toArray, List.append_toArray, List.nil_append, List.cons_append]
  gi_wp2_with (first | (refine ⟨trivial, ?_⟩; gi_at_call 34; refine (callsIn_wide.2 (All_any q _)).mono ?_; rintro e w' ⟨rfl, rfl⟩))
  obtain ⟨W1, hW1⟩ : ∃ W1, (w.alloc (Obj.cells #[Value.slice none 0 0] 22)).alloc (Obj.cells #[Value.pointer q] 27) = W1 := ⟨_, rfl⟩
  have hsz1 : W1.heap.size = w.heap.size + 2 := by rw [← hW1]; simp
  have hB1 : Below w.heap.size w W1 := by rw [← hW1]; exact bt (below_new w _) (by simp) (below_new _ _)
  have hb0 : W1.heap[w.heap.size]? = some (.cells #[.slice none 0 0] 22 (0, 0)) := by
    rw [← hW1, (below_new (w.alloc (Obj.cells #[Value.slice none 0 0] 22)) _).block _ (by simp)]
    exact heap_alloc_new w _
  have hc1 : W1.cell? ⟨w.heap.size + 1, 0, none⟩ = some (.pointer q) := by
    have := heap_alloc_new (w.alloc (Obj.cells #[Value.slice none 0 0] 22)) (.cells #[.pointer q] 27)
    rw [hW1, World.size_alloc] at this
    rw [cell_of_row _ _ _ _ _ _ this]; rfl
  rw [hW1]
  have hq1 : NotMade W1 q := hq.below hB1
  have hiter := NAll1_iter q (w.heap.size + 1) (W1.heap.size + 2) W1 hq1 hc1 rfl
  refine wpIn_rangeFunc_cells (α := Empty) rfl (by omega) rfl trivial (enters_of Try.func59 (by kernel_rfl) rfl) (fun x => x.elim)
    (fun k hk => Or.inl hk) hiter (fun _ Wd => Wd.heap[w.heap.size]? = some (.cells #[.slice none 0 0] 22 (0, 0)) ∧ Below w.heap.size w Wd) (fun _ _ _ => False) (fun _ _ _ _ => True)
    (fun pre X Y row h hg hr => ⟨(hg.block _ (Array.getElem?_eq_some_iff.1 h.1).1 (fun e => by have := hr _ e.symm; omega)).trans h.1, h.2.grown hg h.2.size (fun k e => by have := hr k e; omega)⟩) (fun _ _ _ _ _ h _ _ => h) (fun pre x a X Y row h hg hr => x.elim)
    ⟨hb0, hB1⟩ (fun _ _ x => x.elim) (fun _ _ x => x.elim) ?done ?stop
  case done =>
    rintro xs Wd rfl ⟨hv, hbel⟩ hK
    have hv0 : Wd.cell? ⟨w.heap.size, 0, none⟩ = some (.slice none 0 0) := by rw [cell_of_row _ _ _ _ _ _ hv]; rfl
    have HK := Lib.hid hK
    have Hbel := Lib.hid hbel
    clear hK hv hbel hiter hc1 hb0 hB1 hq1 hW1
    gi_wp2_with fail
    refine ⟨by simp, .inl ⟨_, _, rfl, run_takeDeferred HK.out, ?_⟩⟩
    refine ⟨.slice none 0 0, ?_, rfl, Hbel.out.grown (grownBy_putObj' _ _ _) Hbel.out.size (fun k e => by have := Option.some.inj e; omega)⟩
    simp [results, Try.f19, go_sem]
  case stop =>
    rintro c pre V _ hF
    exact hF.elim
end Go.Proofs.Ytdkfaepmgennjaa
