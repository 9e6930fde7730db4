/- append on a slice of spans of the program's own; slices.Grow of a nil slice; slices.Concat of one and of two lists; checkLists. -/
import Derived.Test.YtnehllkklmdpfaaDoorTmRLists
import Derived.Lib.AppendZerosOnto
import Derived.Lib.Walk
namespace Go.Proofs.YtnehllkklmdpfaaDoor
open Go.RowKit
open T (SV)
set_option linter.unusedSimpArgs false
theorem one_cell_sp (l : List SV) : ∀ u ∈ spCells l, u.oneCell' = true := by
  intro u hu
  obtain ⟨s, _, h⟩ := List.mem_flatMap.1 hu
  simp only [List.mem_cons, List.not_mem_nil, or_false] at h
  rcases h with rfl | rfl <;> rfl
theorem SpIn.news {w : World} {B c : Nat} {ad : Addr} {l : List SV} (h : SpIn w B (some ad) c l) : ∀ j u, (spCells l)[j]? = some u → w.cell? (ad.add j) = some u := by
  intro j u hu
  have hj : j < l.length * 2 := by
    have := (List.getElem?_eq_some_iff.1 hu).1
    rwa [spCells_len] at this
  have hk : j / 2 < l.length := by omega
  obtain ⟨_, c0, c1⟩ := h.cells ad rfl (j / 2) hk
  have hat := spCells_at l (j / 2) hk
  rcases Nat.mod_two_eq_zero_or_one j with e | e
  · have e2 : j / 2 * 2 = j := by omega
    rw [e2] at c0 hat
    rw [c0, ← hat.1, hu]
  · have e2 : j / 2 * 2 + 1 = j := by omega
    rw [e2] at c1
    have := hat.2
    rw [e2] at this
    rw [c1, ← this, hu]
/-- append of what is read as spans to a slice of the program's own. -/
theorem wp_append_sp {w : World} {ops : Array Oper} {rest : List Oper} {o : Oper} {a : Act} {Q : Exit → Act → World → Prop} (hgd : o.guard = none) (s x : Operand)
    (ho : o.op = .call { callee := .builtin .append, args := #[s, x], argTypes := #[29, 29] })
    (base : Nat) (v : Value) (l0 : List SV) (hs : a.eval s = v) (hown : OwnSp w base v l0) (B : Nat) (A : Option Addr) (m c : Nat) (l : List SV) (hx : a.eval x = .slice A m c) (hm : l.length = m) (hl : SpIn w B A c l)
    (hn : l0.length + m ≤ 1000000) (hbase : base ≤ w.heap.size)
    (h : ∀ v' w', OwnSp w' base v' (l0 ++ l) → Below base w w' → (v' = .slice none 0 0 ↔ v = .slice none 0 0 ∧ m = 0) → wpList Tryd.prog ops Q rest (a.put o.dst v') w') : wpList Tryd.prog ops Q (o :: rest) a w := by
  obtain ⟨i0, hi, hz0, hz1, hz2⟩ := info_parts info_sp
  cases A with
  | none =>
    obtain ⟨rfl, rfl⟩ := hl.nil_of
    obtain rfl : m = 0 := hm.symm
    refine wpList_append_own_none hgd s x _ ho base 32 i0 2 Tryd.underlying29 hi v l0.length (spCells l0) hs hown hx ?_
    exact h v w (by rw [List.append_nil]; exact hown) (Below.refl _ _) ⟨fun e => ⟨e, rfl⟩, fun e => e.1⟩
  | some ad =>
    refine wpList_append_own w hgd s x _ ho base 32 i0 (.agg #[.int .i64 0, .int .i64 0]) 2 16 Tryd.underlying29 hi hz0 hz1 hz2 rfl (by decide) v l0.length (spCells l0) hs hown ad m c (spCells l) hx (by rw [spCells_len, hm]) hl.news (one_cell_sp l) (by unfold maxLen; omega) (by omega) hbase ?_
    intro v' w' h1 h2 h3
    refine h v' w' ?_ ((Below.refl base w).grown h2 hbase (fun j hj => (hown.lt j hj).1)) h3
    unfold OwnSp
    rw [List.length_append, hm, spCells_append]
    exact h1
/-- The slice of one span that append is handed. -/
theorem made_sp (w : World) (x y : Int) (hx : T.R64 x) (hy : T.R64 y) (t : TypeId) : SpIn (w.alloc (.cells #[.int .i64 x, .int .i64 y] t)) (w.heap.size + 1) (some ⟨w.heap.size, 0, none⟩) 1 [(x, y)] :=
  ⟨Nat.le_refl _, by unfold maxLen; omega, fun e => (by cases e), fun ad e k hk => by
    injection e with e
    subst e
    simp only [List.length_cons, List.length_nil] at hk
    obtain rfl : k = 0 := by omega
    exact ⟨Nat.lt_succ_self _, by simp [Addr.add], by simp [Addr.add]⟩, by simpa using ⟨hx, hy⟩⟩
set_option maxRecDepth 100000 in
set_option maxHeartbeats 1000000 in
theorem Grow_nil (n : Nat) (hn : n ≤ 1000000) (w : World) :
    Calls Tryd.prog 58 #[.slice none 0 0, .int .i64 n] w fun e w' => ∃ v, e = .returned v ∧ OwnSp w' w.heap.size v [] ∧ Below w.heap.size w w' := by
  obtain ⟨i0, hi, hz0, hz1, hz2⟩ := info_parts info_sp
  have h1 : ¬ ((n : Int) < 0) := by omega
  by_cases h0 : n = 0
  · subst h0
    go_enter Tryd.func58, Tryd.ntmps58
    go_wp2_with fail
    go_ret
    exact ⟨_, rfl, World.ownsRow_nil _ _ _ _, Below.refl _ _⟩
  · have hrz : ∀ ty, (Builtin.append_ #[29, 3] ty #[.slice none 0 0, .int .i64 (n : Int)]).run Tryd.prog w =
      .ok (.slice (some ⟨w.heap.size, 0, none⟩) (0 + n) (grownCap w (0 + n) 0 32)) (w.drew.alloc (.cells (([] : List Value).toArray ++ Builtin.zeroCells (Value.agg #[.int .i64 0, .int .i64 0]).cells n ++ Builtin.zeroCells (Value.agg #[.int .i64 0, .int .i64 0]).cells (grownCap w (0 + n) 0 32 - (0 + n))) 32)) := fun ty =>
      Lib.run_append_grow_zeros w 29 3 ty 32 i0 (.agg #[.int .i64 0, .int .i64 0]) .i64 .i64 Tryd.underlying29 Tryd.underlying3 hi hz0 none 0 0 [] (by rw [hz1]; exact run_firstCells_none w.drew 2 0 0 0) n (by omega) (by omega) (by omega) (by omega) (by rw [hz2]; omega) (growslice_fits (by omega) (by rw [hz2]; omega))
    have hGn : n ≤ grownCap w (0 + n) 0 32 := by have := grownCap_ge w (0 + n) 0 32; omega
    have hG63 := grownCap_le_maxLen w (0 + n) 0 32 (by unfold maxLen; omega)
    obtain ⟨G, hG⟩ : ∃ G, G = grownCap w (0 + n) 0 32 := ⟨_, rfl⟩
    rw [← hG] at hrz hGn hG63
    simp only [Nat.zero_add] at hrz
    obtain ⟨cs, hcs⟩ : ∃ cs, cs = ([] : List Value).toArray ++ Builtin.zeroCells (Value.agg #[.int .i64 0, .int .i64 0]).cells n ++ Builtin.zeroCells (Value.agg #[.int .i64 0, .int .i64 0]).cells (G - n) := ⟨_, rfl⟩
    have hsz : cs.size = G * 2 := by
      rw [hcs]
      simp only [Array.size_append, size_zeroCells, Value.cells, List.size_toArray, List.length_nil, List.length_cons]
      omega
    rw [← hcs] at hrz
    have HO : Hid (OwnSp (w.drew.alloc (.cells cs 32)) w.heap.size (.slice (some ⟨w.heap.size, 0, none⟩) 0 G) []) := Lib.hid (World.ownsRow_made w.drew cs G (Nat.le_refl _) hG63 hsz)
    have HBl : Hid (Below w.heap.size w (w.drew.alloc (.cells cs 32))) := Lib.hid ((Below.refl _ _).drew.alloc (Nat.le_refl _) _)
    have hn0 : (0 : Int) < (n : Int) := by omega
    unfold maxLen at hG63
    clear hcs hG hsz
    go_enter Tryd.func58, Tryd.ntmps58
    go_wp2_with (at_builtin; refine Lib.wpList_append_run _ rfl _ _ _ _ rfl _ _ rfl rfl _ _ (hrz _) ?_)
    go_ret
    exact ⟨_, rfl, HO.out, HBl.out⟩
end Go.Proofs.YtnehllkklmdpfaaDoor
