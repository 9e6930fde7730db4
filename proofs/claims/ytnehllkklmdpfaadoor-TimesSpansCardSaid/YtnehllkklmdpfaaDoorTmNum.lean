/- Slices of numbers: one of the reference's own, and what is appended to it. -/
import Derived.Test.YtnehllkklmdpfaaDoorTmSet
namespace Go.Proofs.YtnehllkklmdpfaaDoor
open Go.RowKit
open T (SV)
set_option linter.unusedSimpArgs false
def numV (z : Int) : Value := .int .i64 z
/-- A slice of numbers of the reference's own. -/
def OwnNum (w : World) (base : Nat) (v : Value) (l : List Int) : Prop := w.ownsRow base 2 1 v l.length (l.map numV)
theorem OwnNum.kept {w w' : World} {base : Nat} {v : Value} {l : List Int} (h : OwnNum w base v l) (hb : Below w.heap.size w w') : OwnNum w' base v l := by
  unfold OwnNum at *
  refine h.kept (row := none) ⟨hb.os, hb.tape, hb.output, hb.size, fun k hk _ => hb.block k hk⟩ ?_
  cases hv : v.ownBlock <;> simp
theorem OwnNum.lt {w : World} {base : Nat} {v : Value} {l : List Int} (h : OwnNum w base v l) : ∀ k, v.ownBlock = some k → base ≤ k ∧ k < w.heap.size := World.ownsRow.lt h
theorem OwnNum.nil_ (w : World) (base : Nat) : OwnNum w base (.slice none 0 0) [] := World.ownsRow_nil _ _ _ _
/-- What is owned is read. -/
theorem OwnNum.reads {w : World} {base : Nat} {v : Value} {l : List Int} (h : OwnNum w base v l) : ∃ A c, v = .slice A l.length c ∧ NumL w w.heap.size A c l ∧ (A = none → c = 0) := by
  rcases h.2 with ⟨rfl, h0⟩ | ⟨g, cap, cur, rfl, hb, hg, h1, h2, h3, h4⟩
  · have : l = [] := List.length_eq_zero_iff.1 h0
    subst this
    exact ⟨none, 0, rfl, ⟨Nat.le_refl _, Nat.zero_le _, fun k hk => absurd hk (Nat.not_lt_zero _)⟩, fun _ => rfl⟩
  · refine ⟨some ⟨g, 0, none⟩, cap, rfl, ⟨h1, h2, fun k hk => ?_⟩, fun e => (by cases e)⟩
    have hgl : g < w.heap.size := (Array.getElem?_eq_some_iff.1 hg).1
    have hc := World.ownsRow.cells h (g := g) rfl
    exact ⟨_, rfl, hgl, hc k _ (by rw [List.getElem?_map, List.getElem?_eq_getElem hk]; rfl)⟩
theorem info_i64 : (Tryd.prog.info? 2).map (fun i => (i.zero, i.size, i.bytes)) = some (some (.int .i64 0), 1, 8) := by kernel_rfl
theorem numV_one (l : List Int) : ∀ u ∈ l.map numV, u.oneCell' = true := by
  intro u hu
  obtain ⟨z, _, rfl⟩ := List.mem_map.1 hu
  rfl
theorem NumL.src {w : World} {B c : Nat} {ad : Addr} {l : List Int} (h : NumL w B (some ad) c l) : ∀ j u, (l.map numV)[j]? = some u → w.cell? (ad.add j) = some u := by
  intro j u hu
  rw [List.getElem?_map] at hu
  obtain ⟨z, hz, rfl⟩ := Option.map_eq_some_iff.1 hu
  obtain ⟨hj, rfl⟩ := List.getElem?_eq_some_iff.1 hz
  obtain ⟨ad', e, -, h2⟩ := h.cells j hj
  cases e
  exact h2
/-- Numbers that read as a list are appended to an own slice, as one operation. -/
theorem wp_num {o : Oper} {a : Act} {K : Act → World → Prop} {Q : Exit → Act → World → Prop} {w : World} (s x : Operand)
    (ho : o.op = .call { callee := .builtin .append, args := #[s, x], argTypes := #[46, 46] })
    (B : Nat) (v : Value) (xs : List Int) (hs : a.eval s = v) (hown : OwnNum w B v xs) (Bs : Nat) (A : Option Addr) (c n : Nat) (l : List Int) (hn : l.length = n) (hx : a.eval x = .slice A n c) (hin : NumL w Bs A c l) (hnil : A = none → c = 0)
    (hB : B ≤ w.heap.size) (hl : xs.length ≤ 1000000) (hl2 : n ≤ 1000000)
    (h : ∀ v' w', OwnNum w' B v' (xs ++ l) → Below B w w' → w.grownBy w' v.ownBlock → K (a.put o.dst v') w') : Oper.wp Tryd.prog o a w K Q := by
  obtain ⟨i0, hi, hz0, hz1, hz2⟩ := info_parts info_i64
  subst hn
  cases A with
  | none =>
    have hl0 : l = [] := by
      cases l with
      | nil => rfl
      | cons z l => obtain ⟨ad, e, -⟩ := hin.cells 0 (by simp); cases e
    subst hl0
    have hrun := run_append_owned_none (P := Tryd.prog) (w := w) B 46 o.type 2 i0 1 Tryd.underlying46 hi v _ _ hown
    have hx' : a.eval x = .slice none 0 0 := by rw [hx, hnil rfl]; rfl
    unfold Oper.wp
    simp [execOp, ho, resolve, invoke, builtin, hs, hx', hrun, Result.andThen]
    exact h v w (by simpa using hown) (Below.refl _ _) (World.grownBy.refl w _)
  | some ad =>
    refine wp_append_own w s x 46 ho B 2 i0 (.int .i64 0) 1 8 Tryd.underlying46 hi hz0 hz1 hz2 rfl (by decide) v _ _ hs hown ad l.length c (l.map numV) hx (by simp) hin.src (numV_one l) (by unfold maxLen; omega) (by omega) hB ?_
    intro v' w' hown' hg _
    refine h v' w' ?_ ((Below.refl B w).grown hg hB (fun k hk => (hown.lt k hk).1)) hg
    unfold OwnNum
    rw [List.length_append, List.map_append]
    exact hown'
theorem wpList_num {ops : Array Oper} {rest : List Oper} {o : Oper} {a : Act} {Q : Exit → Act → World → Prop} {w : World} (hgd : o.guard = none) (s x : Operand)
    (ho : o.op = .call { callee := .builtin .append, args := #[s, x], argTypes := #[46, 46] })
    (B : Nat) (v : Value) (xs : List Int) (hs : a.eval s = v) (hown : OwnNum w B v xs) (Bs : Nat) (A : Option Addr) (c n : Nat) (l : List Int) (hn : l.length = n) (hx : a.eval x = .slice A n c) (hin : NumL w Bs A c l) (hnil : A = none → c = 0)
    (hB : B ≤ w.heap.size) (hl : xs.length ≤ 1000000) (hl2 : n ≤ 1000000)
    (h : ∀ v' w', OwnNum w' B v' (xs ++ l) → Below B w w' → w.grownBy w' v.ownBlock → wpList Tryd.prog ops Q rest (a.put o.dst v') w') : wpList Tryd.prog ops Q (o :: rest) a w :=
  wpList_plain hgd fun _ hK => wp_num s x ho B v xs hs hown Bs A c n l hn hx hin hnil hB hl hl2 fun v' w' h1 h2 h3 => hK _ _ (h v' w' h1 h2 h3)
/-- One number in a block of its own. -/
theorem NumL.made (w : World) (z : Int) (t : TypeId) : NumL (w.alloc (.cells #[.int .i64 z] t)) (w.heap.size + 1) (some ⟨w.heap.size, 0, none⟩) 1 [z] :=
  ⟨Nat.le_refl _, by unfold maxLen; omega, fun k hk => by
    simp only [List.length_cons, List.length_nil] at hk
    obtain rfl : k = 0 := by omega
    exact ⟨_, rfl, Nat.lt_succ_self _, by simp [Addr.add]⟩⟩
/-- What is behind a place. -/
theorem NumL.from_ {w : World} {B c : Nat} {ad : Addr} {l : List Int} (h : NumL w B (some ad) c l) (k : Nat) (hk : k ≤ l.length) : NumL w B (some (ad.add k)) (c - k) (l.drop k) :=
  ⟨by have := h.le; rw [List.length_drop]; omega, by have := h.cap; omega, fun j hj => by
    rw [List.length_drop] at hj
    obtain ⟨ad', e, h1, h2⟩ := h.cells (k + j) (by omega)
    cases e
    refine ⟨_, rfl, by rw [addr_block]; exact h1, ?_⟩
    rw [List.getElem_drop, show (ad.add k).add j = ad.add (k + j) from by unfold Addr.add; split <;> split <;> split <;> simp_all <;> omega]
    exact h2⟩
/-- What is ahead of a place. -/
theorem NumL.upto {w : World} {B c : Nat} {A : Option Addr} {l : List Int} (h : NumL w B A c l) (k : Nat) : NumL w B A c (l.take k) :=
  ⟨by have := h.le; rw [List.length_take]; omega, h.cap, fun j hj => by
    rw [List.length_take] at hj
    obtain ⟨ad', e, h1, h2⟩ := h.cells j (by omega)
    exact ⟨_, e, h1, by rw [List.getElem_take]; exact h2⟩⟩
/-- What is read stays, while another slice grows. -/
theorem NumL.grown {w w' : World} {B c g : Nat} {l : List Int} {row : Option Nat} (h : NumL w B (some ⟨g, 0, none⟩) c l) (hg : w.grownBy w' row) (hne : row ≠ some g) : NumL w' B (some ⟨g, 0, none⟩) c l :=
  ⟨h.le, h.cap, fun k hk => by
    obtain ⟨ad, e, h1, h2⟩ := h.cells k hk
    cases e
    exact ⟨_, rfl, h1, hg.cell h2 (by rw [addr_block]; exact fun e => hne e.symm)⟩⟩
theorem OwnNum.mono {w : World} {B C : Nat} {v : Value} {l : List Int} (h : OwnNum w C v l) (hB : B ≤ C) : OwnNum w B v l := by
  rcases h with ⟨h1, h2 | ⟨g, cap, cur, e, hb, rest⟩⟩
  · exact ⟨h1, .inl h2⟩
  · exact ⟨h1, .inr ⟨g, cap, cur, e, Nat.le_trans hB hb, rest⟩⟩
/-- A number in a block of its own. -/
theorem num_made (w : World) (z : Int) : ∃ w1, w.alloc (.cells #[.int .i64 z] 2) = w1 ∧ Below w.heap.size w w1 ∧ NumL w1 w1.heap.size (some ⟨w.heap.size, 0, none⟩) 1 [z] ∧ OwnNum w1 w.heap.size (.slice (some ⟨w.heap.size, 0, none⟩) 1 1) [z] :=
  ⟨_, rfl, below_new _ _, by rw [show (w.alloc (.cells #[.int .i64 z] 2)).heap.size = w.heap.size + 1 from by simp]; exact NumL.made w z _,
    ⟨by simp, .inr ⟨w.heap.size, 1, #[.int .i64 z], rfl, Nat.le_refl _, heap_alloc_new w _, Nat.le_refl _, by unfold maxLen; omega, rfl, by simp [numV]⟩⟩⟩
/-- An empty slice that is not nil. -/
theorem num_empty (w : World) : ∃ w1, w.alloc (.cells #[] 2) = w1 ∧ Below w.heap.size w w1 ∧ OwnNum w1 w.heap.size (.slice (some ⟨w.heap.size, 0, none⟩) 0 0) [] :=
  ⟨_, rfl, below_new _ _, World.ownsRow_made w #[] 0 (Nat.le_refl _) (by unfold maxLen; omega) rfl⟩
end Go.Proofs.YtnehllkklmdpfaaDoor
