/- The methods of a queue: isMade, New, Len, placeOf, takeOut. -/
import Derived.Test.YtdkfaepmgennjaaHpRem
import Derived.LaidEqlPtr
namespace Go.Proofs.Ytdkfaepmgennjaa
open Go.RowKit Go.Maps
open H (IT)
set_option linter.unusedSimpArgs false
set_option maxRecDepth 100000
/-- The queue's own pointer. -/
def self (g : Nat) : Value := .pointer (some ⟨g, 0, none⟩)
theorem isMade_any (n g gm N : Nat) (v : Value) (nx : Int) (l : List IT) (w : World) (hq : QAt w g gm n (self g) nx v N l) :
    Calls Try.prog 48 #[.pointer (some ⟨g, 0, none⟩)] w fun e w' => e = .returned (.bool true) ∧ w = w' := by
  have c0 : w.cell? ⟨g, 0, none⟩ = some (.pointer (some ⟨g, 0, none⟩)) := by rw [cell_of_row _ _ _ _ _ _ hq.row]; rfl
  have c3 : w.cell? ⟨g, 3, none⟩ = some (.bool false) := by rw [cell_of_row _ _ _ _ _ _ hq.row]; rfl
  have qP : ∀ w : World, (binOp .eql 27 (.pointer (some ⟨g, 0, none⟩)) (.pointer (some ⟨g, 0, none⟩))).run Try.prog w = .ok (.bool true) w := fun w => by
    obtain ⟨j, hj⟩ : ∃ j, Try.prog.info? 47 = some j := by
      cases e : Try.prog.info? 47 with
      | none => exact absurd e (by
          have : (Try.prog.info? 47).isSome = true := by kernel_rfl
          intro h; rw [h] at this; cases this)
      | some j => exact ⟨j, rfl⟩
    exact run_eql_ptr_same w _ Try.underlying27 hj
  clear hq
  go_enter Try.func48, Try.ntmps48
  go_wp2_with fail
  go_ret
  exact ⟨rfl, rfl⟩
theorem QLen_any (n g gm N m c : Nat) (A : Option Addr) (nx : Int) (l : List IT) (w : World) (hq : QAt w g gm n (self g) nx (.slice A m c) N l) :
    Calls Try.prog 26 #[.pointer (some ⟨g, 0, none⟩)] w fun e w' => e = .returned (.int .i64 m) ∧ w = w' := by
  have H1 := Lib.hid (isMade_any n g gm N _ nx l w hq)
  have H2 := Lib.hid (VLen_any n g gm N m c A _ nx l w hq)
  clear hq
  go_enter Try.func26, Try.ntmps26
  go_wp2_with fail
  refine H1.out.mono ?_
  rintro e w' ⟨rfl, rfl⟩
  go_wp2_with fail
  refine H2.out.mono ?_
  rintro e w' ⟨rfl, rfl⟩
  go_wp2_with fail
  go_ret
  exact ⟨rfl, rfl⟩
theorem placeOf_any (n g gm N : Nat) (v : Value) (nx : Int) (l : List IT) (w : World) (hq : QAt w g gm n (self g) nx v N l) (k : Nat) (hk : k < l.length) (h : Int) (hh : (l[k]).1 = h) :
    Calls Try.prog 53 #[.pointer (some ⟨g, 0, none⟩), .int .i64 h] w fun e w' => e = .returned (.tuple #[.int .i64 k, .int .i64 0]) ∧ w = w' := by
  have H1 := Lib.hid (isMade_any n g gm N _ nx l w hq)
  have c5 : w.cell? ⟨g, 5, none⟩ = some (.map (some gm)) := by rw [cell_of_row _ _ _ _ _ _ hq.row]; rfl
  obtain ⟨D, hD, hS⟩ := hq.map
  have hw := hq.wf _ (List.getElem_mem hk)
  have hat := hS.at_ k hk
  rw [hh] at hw hat
  have zeroE : ∀ w : World, (zeroValue 3).run Try.prog w = .ok (.int .i64 0) w := fun w => by kernel_rfl
  obtain ⟨x, ps, hrun, hv⟩ := hD.look_ok (t := 43) lawK Try.underlying43 (zeroE w) (plainElem_int (H := Unit) Try.underlying3 (by decide)) (keyOf_int_mk Try.underlying2 hw)
  rw [hat] at hv
  rw [has_true_of_atKey hat] at hrun
  obtain ⟨c, rfl, hc, -⟩ := plainElem_int_inv Try.underlying3 hv
  obtain rfl : c = (k : Int) := by simp only [Prod.mk.injEq] at hc; injection hc.1 with h1; injection h1 with _ h2; exact h2.symm
  clear hq hD hS hw hat hv zeroE hc
  go_enter Try.func53, Try.ntmps53
  go_wp2_with fail
  refine H1.out.mono ?_
  rintro e w' ⟨rfl, rfl⟩
  go_wp2_with fail
  go_ret2
  exact ⟨rfl, rfl⟩
theorem new_laid (w : World) (n : Nat) : ∃ g gm, Ending.returned (.pointer (some ⟨w.heap.size + 1, 0, none⟩)) = Ending.returned (.pointer (some ⟨g, 0, none⟩)) ∧ QAt ((w.alloc (.map #[] 0)).alloc (.cells #[.pointer (some ⟨w.heap.size + 1, 0, none⟩), .int .i64 1, .func (.func n) #[] #[], .bool false, .slice none 0 0, .map (some w.heap.size)] 47)) g gm n (self g) 1 (.slice none 0 0) 0 [] ∧ Below w.heap.size w ((w.alloc (.map #[] 0)).alloc (.cells #[.pointer (some ⟨w.heap.size + 1, 0, none⟩), .int .i64 1, .func (.func n) #[] #[], .bool false, .slice none 0 0, .map (some w.heap.size)] 47)) ∧ w.heap.size ≤ g ∧ w.heap.size ≤ gm := by
  have z1 : (w.alloc (.map #[] 0)).heap.size = w.heap.size + 1 := by simp
  have hb2 := below_new (w.alloc (.map #[] 0)) (.cells #[.pointer (some ⟨w.heap.size + 1, 0, none⟩), .int .i64 1, .func (.func n) #[] #[], .bool false, .slice none 0 0, .map (some w.heap.size)] 47)
  have hr := heap_alloc_new (w.alloc (.map #[] 0)) (.cells #[.pointer (some ⟨w.heap.size + 1, 0, none⟩), .int .i64 1, .func (.func n) #[] #[], .bool false, .slice none 0 0, .map (some w.heap.size)] 47)
  rw [z1] at hr
  have hD := (World.ownsMap_made (H := Unit) w Try.prog 2 (plainElem Try.prog 3)).alloc (.cells #[.pointer (some ⟨w.heap.size + 1, 0, none⟩), .int .i64 1, .func (.func n) #[] #[], .bool false, .slice none 0 0, .map (some w.heap.size)] 47)
  exact ⟨w.heap.size + 1, w.heap.size, rfl, ⟨hr, OwnIt.nil_ _, ⟨_, hD, MapS.nil_⟩, by omega, by simp [Value.ownBlock], by simp [Value.ownBlock], fun a _ ha => absurd ha (Nat.not_lt_zero _), fun x hx => by cases hx⟩, bt (below_new w _) (by omega) hb2, by omega, Nat.le_refl _⟩
theorem New_any (n : Nat) (hn : n = 31 ∨ n = 36) (w : World) :
    Calls Try.prog 11 #[.func (.func n) #[] #[]] w fun e w' => ∃ g gm, e = .returned (.pointer (some ⟨g, 0, none⟩)) ∧ QAt w' g gm n (self g) 1 (.slice none 0 0) 0 [] ∧ Below w.heap.size w w' ∧ w.heap.size ≤ g ∧ w.heap.size ≤ gm := by
  have hmm := @run_makeMap Try.prog
  rcases hn with rfl | rfl
  · have qF : ∀ w : World, (binOp .eql 29 (.func (.func 31) #[] #[]) .nilFunc).run Try.prog w = .ok (.bool false) w := fun w => by kernel_rfl
    go_enter Try.func11, Try.ntmps11
    go_wp2_with fail
    go_ret
    exact new_laid w _
  · have qF : ∀ w : World, (binOp .eql 29 (.func (.func 36) #[] #[]) .nilFunc).run Try.prog w = .ok (.bool false) w := fun w => by kernel_rfl
    go_enter Try.func11, Try.ntmps11
    go_wp2_with fail
    go_ret
    exact new_laid w _
set_option maxHeartbeats 1000000 in
theorem takeOut_any (n : Nat) (ord : Int → Int → Bool) (ho : OrdN n ord) (g gm gl cap m N : Nat) (nx : Int) (l : List IT) (i : Nat) (w : World) (hq : QAt w g gm n (self g) nx (.slice (some ⟨gl, 0, none⟩) (m + 1) cap) N l) (hm : l.length = m + 1) (hi : i < m + 1) (h5 : m + 1 ≤ 1000000) (hN : N + 2 + 4 * (m + 1) < 1000000000) :
    Calls Try.prog 52 #[.pointer (some ⟨g, 0, none⟩), .int .i64 i] w fun e w' => e = .returned (.int .i64 (H.at_ (H.pre ord l i) m).2) ∧ ∃ N', N' ≤ N + 2 + 4 * (m + 1) ∧ QAt w' g gm n (self g) nx (.slice (some ⟨gl, 0, none⟩) m cap) N' (H.hrem ord l i) ∧ Kept w w' g gm (.slice (some ⟨gl, 0, none⟩) (m + 1) cap) := by
  have HR := Lib.hid (HRemove_any n ord ho g gm gl cap m N _ nx l i w hq hm hi h5 hN)
  have hta : ∀ (u : Value) (w : World), (Instr.typeAssert (.iface 64 u) 20 64 false).run Try.prog w = .ok u w := fun _ _ => by kernel_rfl
  have qf : ∀ (a b : Value) (w : World), (Instr.field 64 (.agg #[a, b]) 1).run Try.prog w = .ok b w := fun _ _ _ => by kernel_rfl
  clear hq ho
  go_enter Try.func52, Try.ntmps52
  go_wp2_with fail
  refine HR.out.mono ?_
  rintro e w1 ⟨rfl, N', hN', hq1, hk1⟩
  go_wp2_with fail
  go_ret
  exact ⟨rfl, N', hN', hq1, hk1⟩
end Go.Proofs.Ytdkfaepmgennjaa
