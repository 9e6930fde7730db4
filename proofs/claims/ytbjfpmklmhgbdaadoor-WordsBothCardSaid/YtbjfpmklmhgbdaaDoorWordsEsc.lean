/- Contracts of words.letterOf and words.rawOf: the table of escapes. -/
import Derived.Test.YtbjfpmklmhgbdaaDoorWords1
import Derived.Laws.Rows
import Derived.LoopN
namespace Go.Proofs.YtbjfpmklmhgbdaaDoor
open Go.RowKit
/-- The table of escapes, as it lies in memory. -/
def escRow : Array Value := #[.int .u8 34, .int .u8 34, .int .u8 92, .int .u8 92, .int .u8 10, .int .u8 110, .int .u8 13, .int .u8 114, .int .u8 9, .int .u8 116]
/-- The table of escapes lies in its variable. -/
def EscIn (w : World) : Prop := ∃ t fr, w.heap[0]? = some (.cells escRow t fr)
theorem escRow_size : (Tryd.prog.info? 113).map (·.size) = some escRow.size := by kernel_rfl
theorem esc0 : ∀ w, (Instr.index 113 (.agg escRow) (.int .i64 0)).run Tryd.prog w = .ok (.agg #[.int .u8 34, .int .u8 34]) w := fun _ => by kernel_rfl
theorem esc1 : ∀ w, (Instr.index 113 (.agg escRow) (.int .i64 1)).run Tryd.prog w = .ok (.agg #[.int .u8 92, .int .u8 92]) w := fun _ => by kernel_rfl
theorem esc2 : ∀ w, (Instr.index 113 (.agg escRow) (.int .i64 2)).run Tryd.prog w = .ok (.agg #[.int .u8 10, .int .u8 110]) w := fun _ => by kernel_rfl
theorem esc3 : ∀ w, (Instr.index 113 (.agg escRow) (.int .i64 3)).run Tryd.prog w = .ok (.agg #[.int .u8 13, .int .u8 114]) w := fun _ => by kernel_rfl
theorem esc4 : ∀ w, (Instr.index 113 (.agg escRow) (.int .i64 4)).run Tryd.prog w = .ok (.agg #[.int .u8 9, .int .u8 116]) w := fun _ => by kernel_rfl

set_option maxRecDepth 100000 in
set_option maxHeartbeats 1000000 in
theorem letterOf_no (c : Int) (w : World) (hE : EscIn w) (h34 : (34 == c) = false) (h92 : (92 == c) = false) (h10 : (10 == c) = false) (h13 : (13 == c) = false) (h9 : (9 == c) = false) :
    Calls Tryd.prog 63 #[.int .u8 c] w fun e w' => e = .returned (.tuple #[.int .u8 0, .bool false]) ∧ Below w.heap.size w w' := by
  obtain ⟨t, fr, hE⟩ := hE
  have HE := Lib.hid hE
  clear hE
  have i0 := esc0
  have i1 := esc1
  have i2 := esc2
  have i3 := esc3
  have i4 := esc4
  go_enter Tryd.func63, Tryd.ntmps63
  go_wp2_with (refine wpList_load_row rfl 113 _ rfl 0 rfl t escRow fr _ HE.out Tryd.underlying113 rfl escRow_size ?_)
  refine wp_loop_rounds 6 ?_
  rw [rounds_succ]
  go_wp2
  rw [rounds_succ]
  go_wp2
  rw [rounds_succ]
  go_wp2
  rw [rounds_succ]
  go_wp2
  rw [rounds_succ]
  go_wp2
  rw [rounds_succ]
  go_wp2
  go_ret2
  exact ⟨rfl, ((((((Below.refl _ _).alloc (by simp <;> omega) _).alloc (by simp <;> omega) _).alloc (by simp <;> omega) _).alloc (by simp <;> omega) _).alloc (by simp <;> omega) _)⟩

set_option maxRecDepth 100000 in
set_option maxHeartbeats 1000000 in
theorem letterOf_0 (w : World) (hE : EscIn w) :
    Calls Tryd.prog 63 #[.int .u8 34] w fun e w' => e = .returned (.tuple #[.int .u8 34, .bool true]) ∧ Below w.heap.size w w' := by
  obtain ⟨t, fr, hE⟩ := hE
  have HE := Lib.hid hE
  clear hE
  have i0 := esc0
  have i1 := esc1
  have i2 := esc2
  have i3 := esc3
  have i4 := esc4
  go_enter Tryd.func63, Tryd.ntmps63
  go_wp2_with (refine wpList_load_row rfl 113 _ rfl 0 rfl t escRow fr _ HE.out Tryd.underlying113 rfl escRow_size ?_)
  refine wp_loop_rounds 6 ?_
  rw [rounds_succ]
  go_wp2
  go_ret2
  exact ⟨rfl, ((Below.refl _ _).alloc (by simp <;> omega) _)⟩

set_option maxRecDepth 100000 in
set_option maxHeartbeats 1000000 in
theorem letterOf_1 (w : World) (hE : EscIn w) :
    Calls Tryd.prog 63 #[.int .u8 92] w fun e w' => e = .returned (.tuple #[.int .u8 92, .bool true]) ∧ Below w.heap.size w w' := by
  obtain ⟨t, fr, hE⟩ := hE
  have HE := Lib.hid hE
  clear hE
  have i0 := esc0
  have i1 := esc1
  have i2 := esc2
  have i3 := esc3
  have i4 := esc4
  go_enter Tryd.func63, Tryd.ntmps63
  go_wp2_with (refine wpList_load_row rfl 113 _ rfl 0 rfl t escRow fr _ HE.out Tryd.underlying113 rfl escRow_size ?_)
  refine wp_loop_rounds 6 ?_
  rw [rounds_succ]
  go_wp2
  rw [rounds_succ]
  go_wp2
  go_ret2
  exact ⟨rfl, (((Below.refl _ _).alloc (by simp <;> omega) _).alloc (by simp <;> omega) _)⟩

set_option maxRecDepth 100000 in
set_option maxHeartbeats 1000000 in
theorem letterOf_2 (w : World) (hE : EscIn w) :
    Calls Tryd.prog 63 #[.int .u8 10] w fun e w' => e = .returned (.tuple #[.int .u8 110, .bool true]) ∧ Below w.heap.size w w' := by
  obtain ⟨t, fr, hE⟩ := hE
  have HE := Lib.hid hE
  clear hE
  have i0 := esc0
  have i1 := esc1
  have i2 := esc2
  have i3 := esc3
  have i4 := esc4
  go_enter Tryd.func63, Tryd.ntmps63
  go_wp2_with (refine wpList_load_row rfl 113 _ rfl 0 rfl t escRow fr _ HE.out Tryd.underlying113 rfl escRow_size ?_)
  refine wp_loop_rounds 6 ?_
  rw [rounds_succ]
  go_wp2
  rw [rounds_succ]
  go_wp2
  rw [rounds_succ]
  go_wp2
  go_ret2
  exact ⟨rfl, ((((Below.refl _ _).alloc (by simp <;> omega) _).alloc (by simp <;> omega) _).alloc (by simp <;> omega) _)⟩

set_option maxRecDepth 100000 in
set_option maxHeartbeats 1000000 in
theorem letterOf_3 (w : World) (hE : EscIn w) :
    Calls Tryd.prog 63 #[.int .u8 13] w fun e w' => e = .returned (.tuple #[.int .u8 114, .bool true]) ∧ Below w.heap.size w w' := by
  obtain ⟨t, fr, hE⟩ := hE
  have HE := Lib.hid hE
  clear hE
  have i0 := esc0
  have i1 := esc1
  have i2 := esc2
  have i3 := esc3
  have i4 := esc4
  go_enter Tryd.func63, Tryd.ntmps63
  go_wp2_with (refine wpList_load_row rfl 113 _ rfl 0 rfl t escRow fr _ HE.out Tryd.underlying113 rfl escRow_size ?_)
  refine wp_loop_rounds 6 ?_
  rw [rounds_succ]
  go_wp2
  rw [rounds_succ]
  go_wp2
  rw [rounds_succ]
  go_wp2
  rw [rounds_succ]
  go_wp2
  go_ret2
  exact ⟨rfl, (((((Below.refl _ _).alloc (by simp <;> omega) _).alloc (by simp <;> omega) _).alloc (by simp <;> omega) _).alloc (by simp <;> omega) _)⟩

set_option maxRecDepth 100000 in
set_option maxHeartbeats 1000000 in
theorem letterOf_4 (w : World) (hE : EscIn w) :
    Calls Tryd.prog 63 #[.int .u8 9] w fun e w' => e = .returned (.tuple #[.int .u8 116, .bool true]) ∧ Below w.heap.size w w' := by
  obtain ⟨t, fr, hE⟩ := hE
  have HE := Lib.hid hE
  clear hE
  have i0 := esc0
  have i1 := esc1
  have i2 := esc2
  have i3 := esc3
  have i4 := esc4
  go_enter Tryd.func63, Tryd.ntmps63
  go_wp2_with (refine wpList_load_row rfl 113 _ rfl 0 rfl t escRow fr _ HE.out Tryd.underlying113 rfl escRow_size ?_)
  refine wp_loop_rounds 6 ?_
  rw [rounds_succ]
  go_wp2
  rw [rounds_succ]
  go_wp2
  rw [rounds_succ]
  go_wp2
  rw [rounds_succ]
  go_wp2
  rw [rounds_succ]
  go_wp2
  go_ret2
  exact ⟨rfl, ((((((Below.refl _ _).alloc (by simp <;> omega) _).alloc (by simp <;> omega) _).alloc (by simp <;> omega) _).alloc (by simp <;> omega) _).alloc (by simp <;> omega) _)⟩

set_option maxRecDepth 100000 in
set_option maxHeartbeats 1000000 in
theorem rawOf_no (c : Int) (w : World) (hE : EscIn w) (h34 : (34 == c) = false) (h92 : (92 == c) = false) (h110 : (110 == c) = false) (h114 : (114 == c) = false) (h116 : (116 == c) = false) :
    Calls Tryd.prog 88 #[.int .u8 c] w fun e w' => e = .returned (.tuple #[.int .u8 0, .bool false]) ∧ Below w.heap.size w w' := by
  obtain ⟨t, fr, hE⟩ := hE
  have HE := Lib.hid hE
  clear hE
  have i0 := esc0
  have i1 := esc1
  have i2 := esc2
  have i3 := esc3
  have i4 := esc4
  go_enter Tryd.func88, Tryd.ntmps88
  go_wp2_with (refine wpList_load_row rfl 113 _ rfl 0 rfl t escRow fr _ HE.out Tryd.underlying113 rfl escRow_size ?_)
  refine wp_loop_rounds 6 ?_
  rw [rounds_succ]
  go_wp2
  rw [rounds_succ]
  go_wp2
  rw [rounds_succ]
  go_wp2
  rw [rounds_succ]
  go_wp2
  rw [rounds_succ]
  go_wp2
  rw [rounds_succ]
  go_wp2
  go_ret2
  exact ⟨rfl, ((((((Below.refl _ _).alloc (by simp <;> omega) _).alloc (by simp <;> omega) _).alloc (by simp <;> omega) _).alloc (by simp <;> omega) _).alloc (by simp <;> omega) _)⟩

set_option maxRecDepth 100000 in
set_option maxHeartbeats 1000000 in
theorem rawOf_0 (w : World) (hE : EscIn w) :
    Calls Tryd.prog 88 #[.int .u8 34] w fun e w' => e = .returned (.tuple #[.int .u8 34, .bool true]) ∧ Below w.heap.size w w' := by
  obtain ⟨t, fr, hE⟩ := hE
  have HE := Lib.hid hE
  clear hE
  have i0 := esc0
  have i1 := esc1
  have i2 := esc2
  have i3 := esc3
  have i4 := esc4
  go_enter Tryd.func88, Tryd.ntmps88
  go_wp2_with (refine wpList_load_row rfl 113 _ rfl 0 rfl t escRow fr _ HE.out Tryd.underlying113 rfl escRow_size ?_)
  refine wp_loop_rounds 6 ?_
  rw [rounds_succ]
  go_wp2
  go_ret2
  exact ⟨rfl, ((Below.refl _ _).alloc (by simp <;> omega) _)⟩

set_option maxRecDepth 100000 in
set_option maxHeartbeats 1000000 in
theorem rawOf_1 (w : World) (hE : EscIn w) :
    Calls Tryd.prog 88 #[.int .u8 92] w fun e w' => e = .returned (.tuple #[.int .u8 92, .bool true]) ∧ Below w.heap.size w w' := by
  obtain ⟨t, fr, hE⟩ := hE
  have HE := Lib.hid hE
  clear hE
  have i0 := esc0
  have i1 := esc1
  have i2 := esc2
  have i3 := esc3
  have i4 := esc4
  go_enter Tryd.func88, Tryd.ntmps88
  go_wp2_with (refine wpList_load_row rfl 113 _ rfl 0 rfl t escRow fr _ HE.out Tryd.underlying113 rfl escRow_size ?_)
  refine wp_loop_rounds 6 ?_
  rw [rounds_succ]
  go_wp2
  rw [rounds_succ]
  go_wp2
  go_ret2
  exact ⟨rfl, (((Below.refl _ _).alloc (by simp <;> omega) _).alloc (by simp <;> omega) _)⟩

set_option maxRecDepth 100000 in
set_option maxHeartbeats 1000000 in
theorem rawOf_2 (w : World) (hE : EscIn w) :
    Calls Tryd.prog 88 #[.int .u8 110] w fun e w' => e = .returned (.tuple #[.int .u8 10, .bool true]) ∧ Below w.heap.size w w' := by
  obtain ⟨t, fr, hE⟩ := hE
  have HE := Lib.hid hE
  clear hE
  have i0 := esc0
  have i1 := esc1
  have i2 := esc2
  have i3 := esc3
  have i4 := esc4
  go_enter Tryd.func88, Tryd.ntmps88
  go_wp2_with (refine wpList_load_row rfl 113 _ rfl 0 rfl t escRow fr _ HE.out Tryd.underlying113 rfl escRow_size ?_)
  refine wp_loop_rounds 6 ?_
  rw [rounds_succ]
  go_wp2
  rw [rounds_succ]
  go_wp2
  rw [rounds_succ]
  go_wp2
  go_ret2
  exact ⟨rfl, ((((Below.refl _ _).alloc (by simp <;> omega) _).alloc (by simp <;> omega) _).alloc (by simp <;> omega) _)⟩

set_option maxRecDepth 100000 in
set_option maxHeartbeats 1000000 in
theorem rawOf_3 (w : World) (hE : EscIn w) :
    Calls Tryd.prog 88 #[.int .u8 114] w fun e w' => e = .returned (.tuple #[.int .u8 13, .bool true]) ∧ Below w.heap.size w w' := by
  obtain ⟨t, fr, hE⟩ := hE
  have HE := Lib.hid hE
  clear hE
  have i0 := esc0
  have i1 := esc1
  have i2 := esc2
  have i3 := esc3
  have i4 := esc4
  go_enter Tryd.func88, Tryd.ntmps88
  go_wp2_with (refine wpList_load_row rfl 113 _ rfl 0 rfl t escRow fr _ HE.out Tryd.underlying113 rfl escRow_size ?_)
  refine wp_loop_rounds 6 ?_
  rw [rounds_succ]
  go_wp2
  rw [rounds_succ]
  go_wp2
  rw [rounds_succ]
  go_wp2
  rw [rounds_succ]
  go_wp2
  go_ret2
  exact ⟨rfl, (((((Below.refl _ _).alloc (by simp <;> omega) _).alloc (by simp <;> omega) _).alloc (by simp <;> omega) _).alloc (by simp <;> omega) _)⟩

set_option maxRecDepth 100000 in
set_option maxHeartbeats 1000000 in
theorem rawOf_4 (w : World) (hE : EscIn w) :
    Calls Tryd.prog 88 #[.int .u8 116] w fun e w' => e = .returned (.tuple #[.int .u8 9, .bool true]) ∧ Below w.heap.size w w' := by
  obtain ⟨t, fr, hE⟩ := hE
  have HE := Lib.hid hE
  clear hE
  have i0 := esc0
  have i1 := esc1
  have i2 := esc2
  have i3 := esc3
  have i4 := esc4
  go_enter Tryd.func88, Tryd.ntmps88
  go_wp2_with (refine wpList_load_row rfl 113 _ rfl 0 rfl t escRow fr _ HE.out Tryd.underlying113 rfl escRow_size ?_)
  refine wp_loop_rounds 6 ?_
  rw [rounds_succ]
  go_wp2
  rw [rounds_succ]
  go_wp2
  rw [rounds_succ]
  go_wp2
  rw [rounds_succ]
  go_wp2
  rw [rounds_succ]
  go_wp2
  go_ret2
  exact ⟨rfl, ((((((Below.refl _ _).alloc (by simp <;> omega) _).alloc (by simp <;> omega) _).alloc (by simp <;> omega) _).alloc (by simp <;> omega) _).alloc (by simp <;> omega) _)⟩

namespace W
/-- The letter of a byte's escape (0: none), and the byte of a letter's. -/
def letN (c : Int) : Int := if c = 34 then 34 else if c = 92 then 92 else if c = 10 then 110 else if c = 13 then 114 else if c = 9 then 116 else 0
def letB (c : Int) : Bool := c == 34 || c == 92 || c == 10 || c == 13 || c == 9
def rawN (c : Int) : Int := if c = 34 then 34 else if c = 92 then 92 else if c = 110 then 10 else if c = 114 then 13 else if c = 116 then 9 else 0
def rawB (c : Int) : Bool := c == 34 || c == 92 || c == 110 || c == 114 || c == 116
end W
theorem letterOf_any (c : Int) (w : World) (hE : EscIn w) :
    Calls Tryd.prog 63 #[.int .u8 c] w fun e w' => e = .returned (.tuple #[.int .u8 (W.letN c), .bool (W.letB c)]) ∧ Below w.heap.size w w' := by
  by_cases h1 : c = 34
  · subst h1; exact letterOf_0 w hE
  by_cases h2 : c = 92
  · subst h2; exact letterOf_1 w hE
  by_cases h3 : c = 10
  · subst h3; exact letterOf_2 w hE
  by_cases h4 : c = 13
  · subst h4; exact letterOf_3 w hE
  by_cases h5 : c = 9
  · subst h5; exact letterOf_4 w hE
  · have e1 : W.letN c = 0 := by simp [W.letN, h1, h2, h3, h4, h5]
    have e2 : W.letB c = false := by simp [W.letB, h1, h2, h3, h4, h5]
    rw [e1, e2]
    exact letterOf_no c w hE (by simp; omega) (by simp; omega) (by simp; omega) (by simp; omega) (by simp; omega)
theorem rawOf_any (c : Int) (w : World) (hE : EscIn w) :
    Calls Tryd.prog 88 #[.int .u8 c] w fun e w' => e = .returned (.tuple #[.int .u8 (W.rawN c), .bool (W.rawB c)]) ∧ Below w.heap.size w w' := by
  by_cases h1 : c = 34
  · subst h1; exact rawOf_0 w hE
  by_cases h2 : c = 92
  · subst h2; exact rawOf_1 w hE
  by_cases h3 : c = 110
  · subst h3; exact rawOf_2 w hE
  by_cases h4 : c = 114
  · subst h4; exact rawOf_3 w hE
  by_cases h5 : c = 116
  · subst h5; exact rawOf_4 w hE
  · have e1 : W.rawN c = 0 := by simp [W.rawN, h1, h2, h3, h4, h5]
    have e2 : W.rawB c = false := by simp [W.rawB, h1, h2, h3, h4, h5]
    rw [e1, e2]
    exact rawOf_no c w hE (by simp; omega) (by simp; omega) (by simp; omega) (by simp; omega) (by simp; omega)
end Go.Proofs.YtbjfpmklmhgbdaaDoor
