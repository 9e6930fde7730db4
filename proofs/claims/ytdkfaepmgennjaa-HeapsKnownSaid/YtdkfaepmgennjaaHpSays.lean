/- The order of a queue is asked: says, compare, Less. -/
import Derived.Test.YtdkfaepmgennjaaProg
import Derived.Tactics
import Derived.Tactics2
import Derived.StillTactics
import Derived.Defers
import Derived.Recover
import Derived.Lib.Walk
import Derived.Lib.Hide
import Derived.Below
import Derived.OwnWalk
import Derived.Laws.Pointers
namespace Go.Proofs.Ytdkfaepmgennjaa
open Go.RowKit
set_option linter.unusedSimpArgs false
set_option maxRecDepth 100000
theorem bt {w W w1 : World} {B : Nat} (h0 : Below B w W) (hB : B ≤ W.heap.size) (hb : Below W.heap.size W w1) : Below B w w1 := h0.trans (hb.mono hB)
theorem below_new (w : World) (o : Obj) : Below w.heap.size w (w.alloc o) := (Below.refl _ _).alloc (Nat.le_refl _) _
theorem says_end (p : Addr) (g : Nat) (b : Bool) (w : World) (hp : w.cell? p = some (.pointer (some ⟨g, 2, none⟩))) (hc : w.cell? ⟨g, 3, none⟩ = some (.bool b)) (hz : w.frozen? ⟨g, 3, none⟩ = false) :
    CallsD Try.prog 71 #[.pointer (some p)] .returning w fun e u' w' => e = .returned (.tuple #[]) ∧ u' = .returning ∧ w' = w.setCell ⟨g, 3, none⟩ (.bool false) := by
  refine callsD_of_wpS Try.func71 rfl fun c₀ cs hu => ?_
  apply wpS_seq
  apply wpS_region
  simp [wpOpsS, go_sem, recoverD, hu, hp, hc, hz, Try.ntmps71, Exit.thenS]
  apply wpS_region
  simp [wpOpsS, go_sem, recoverD, hu, Exit.thenS]
  cases c₀
  simp_all [bodyPostS, results, Try.results71]
/-- The queue's own block: the pointer to itself, the next handle, the order, whether it is asked, the list, the map. -/
def rowQ (s : Value) (nx : Int) (f : Value) (b : Bool) (lst mp : Value) : Obj := .cells #[s, .int .i64 nx, f, .bool b, lst, mp] 47 (0, 0)
/-- Function n is the order ord. -/
def OrdC (n : Nat) (ord : Int → Int → Bool) : Prop := ∀ a b w, Calls Try.prog n #[.int .i64 a, .int .i64 b] w fun e w' => e = .returned (.bool (ord a b)) ∧ w = w'
theorem asked_back {w w1 w2 w3 : World} {g : Nat} {s f lst mp : Value} {nx : Int} {b : Bool} (h : w.heap[g]? = some (rowQ s nx f false lst mp)) (h1 : Below w.heap.size w w1) (h2 : w2 = w1.setCell ⟨g, 3, none⟩ (.bool b)) (h3 : w3 = w2.setCell ⟨g, 3, none⟩ (.bool false)) : Below w.heap.size w w3 := by
  have hg : g < w.heap.size := (Array.getElem?_eq_some_iff.1 h).1
  have r1 := (h1.block g hg).trans h
  have r2 := heap_setCell_same w1 g 3 _ _ (.bool b) r1
  rw [← h2] at r2
  have r3 := heap_setCell_same w2 g 3 _ _ (.bool false) r2
  rw [← h3] at r3
  refine ⟨by rw [h3, h2]; exact h1.os, by rw [h3, h2]; exact h1.tape, by rw [h3, h2]; exact h1.output, by rw [h3, h2]; simpa using h1.size, fun k hk => ?_⟩
  by_cases e : k = g
  · subst e
    rw [r3, h]; rfl
  · rw [h3, heap_setCell_other _ _ _ _ (by simpa using e), h2, heap_setCell_other _ _ _ _ (by simpa using e)]
    exact h1.block k hk
theorem says_any (n : Nat) (ord : Int → Int → Bool) (hn : n = 31 ∨ n = 36) (hord : OrdC n ord) (g : Nat) (s lst mp : Value) (nx : Int) (a b : Int) (w : World) (hg : w.heap[g]? = some (rowQ s nx (.func (.func n) #[] #[]) false lst mp)) :
    Calls Try.prog 60 #[.pointer (some ⟨g, 2, none⟩), .int .i64 a, .int .i64 b] w fun e w' => e = .returned (.bool (ord a b)) ∧ Below w.heap.size w w' := by
  have hmf : ∀ (fn : Fn) (first cap : Array Value) (w : World), (Instr.makeFunc fn first cap).run Try.prog w = .ok (.func fn first cap) w := fun _ _ _ _ => rfl
  have hgl : g < w.heap.size := (Array.getElem?_eq_some_iff.1 hg).1
  have r1 : (w.alloc (.cells #[.pointer (some ⟨g, 2, none⟩)] 98)).heap[g]? = some (rowQ s nx (.func (.func n) #[] #[]) false lst mp) := ((below_new w _).block g hgl).trans hg
  have p1 := heap_alloc_new w (.cells #[.pointer (some ⟨g, 2, none⟩)] 98)
  have b3 : (w.alloc (.cells #[.pointer (some ⟨g, 2, none⟩)] 98)).cell? ⟨g, 3, none⟩ = some (.bool false) := by rw [cell_of_row _ _ _ _ _ _ r1]; rfl
  have y3 : (w.alloc (.cells #[.pointer (some ⟨g, 2, none⟩)] 98)).frozen? ⟨g, 3, none⟩ = false := frozen_of_row _ _ _ _ _ r1
  have r2 := heap_setCell_same _ g 3 _ _ (.bool true) r1
  have p2 := (heap_setCell_other (w.alloc (.cells #[.pointer (some ⟨g, 2, none⟩)] 98)) ⟨g, 3, none⟩ w.heap.size (.bool true) (by show w.heap.size ≠ g; omega)).trans p1
  have d2 : ((w.alloc (.cells #[.pointer (some ⟨g, 2, none⟩)] 98)).setCell ⟨g, 3, none⟩ (.bool true)).cell? ⟨g, 2, none⟩ = some (.func (.func n) #[] #[]) := by rw [cell_of_row _ _ _ _ _ _ r2]; rfl
  have d3 : ((w.alloc (.cells #[.pointer (some ⟨g, 2, none⟩)] 98)).setCell ⟨g, 3, none⟩ (.bool true)).cell? ⟨g, 3, none⟩ = some (.bool true) := by rw [cell_of_row _ _ _ _ _ _ r2]; rfl
  have x3 : ((w.alloc (.cells #[.pointer (some ⟨g, 2, none⟩)] 98)).setCell ⟨g, 3, none⟩ (.bool true)).frozen? ⟨g, 3, none⟩ = false := frozen_of_row _ _ _ _ _ r2
  have dp : ((w.alloc (.cells #[.pointer (some ⟨g, 2, none⟩)] 98)).setCell ⟨g, 3, none⟩ (.bool true)).cell? ⟨w.heap.size, 0, none⟩ = some (.pointer (some ⟨g, 2, none⟩)) := by rw [cell_of_row _ _ _ _ _ _ p2]; rfl
  clear r1 r2 p1 p2
  have HG := Lib.hid hg
  have HO := Lib.hid hord
  clear hg hord
  rcases hn with rfl | rfl
  all_goals
    go_enter_defers Try.func60, Try.ntmps60
    go_wp2_with fail
    refine (HO.out a b _).mono ?_
    rintro e w' ⟨rfl, rfl⟩
    go_wp2_with fail
    refine leaves_cons (f := 71) (args := #[.pointer (some ⟨w.heap.size, 0, none⟩)]) (by simp) (by simp [go_sem]) ?_
    refine (says_end ⟨w.heap.size, 0, none⟩ g true _ dp d3 x3).mono ?_
    rintro e u' w'' ⟨rfl, rfl, rfl⟩
    exact ⟨_, results_tmp rfl _ _ _, rfl, asked_back HG.out (below_new w _) rfl rfl⟩
end Go.Proofs.Ytdkfaepmgennjaa
