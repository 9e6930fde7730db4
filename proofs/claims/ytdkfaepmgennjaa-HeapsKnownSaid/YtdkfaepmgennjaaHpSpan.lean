/- Slices of items that are read, and such as a call has made itself. -/
import Derived.Test.YtdkfaepmgennjaaHpWalked
import Derived.Laws.AppendOwn
import Derived.Laws.AppendOwnNone
import Derived.Lib.Walk
namespace Go.Proofs.Ytdkfaepmgennjaa
open Go.RowKit
namespace T
abbrev SV := Int × Int
def R64 (_ : Int) : Prop := True
end T
open T (SV)
set_option linter.unusedSimpArgs false
theorem info_parts {P : Program} {e : TypeId} {z : Value} {s b : Nat} (h : (P.info? e).map (fun i => (i.zero, i.size, i.bytes)) = some (some z, s, b)) : ∃ i0, P.info? e = some i0 ∧ i0.zero = some z ∧ i0.size = s ∧ i0.bytes = b := by
  cases e' : P.info? e with
  | none => rw [e'] at h; cases h
  | some i => rw [e'] at h; simp only [Option.map_some, Option.some.injEq, Prod.mk.injEq] at h; exact ⟨i, rfl, h.1, h.2.1, h.2.2⟩
theorem addr_blk (a : Addr) (n : Nat) : (a.add n).block = a.block := by unfold Addr.add; split <;> rfl
theorem addr_add (a : Addr) (i j : Nat) : (a.add i).add j = a.add (i + j) := by
  unfold Addr.add
  by_cases hi : i = 0 <;> by_cases hj : j = 0 <;> simp [hi, hj, Nat.add_assoc]
theorem addr_one (a : Addr) : a.add 1 = ⟨a.block, a.off + 1, none⟩ := rfl
theorem addr_lit (g o k : Nat) : (⟨g, o, none⟩ : Addr).add k = ⟨g, o + k, none⟩ := by unfold Addr.add; split <;> simp_all
/-- The slice '.slice A n c' reads as the spans l, which are numbers of 64 bits, and lies below block B. -/
structure SpIn (w : World) (B : Nat) (A : Option Addr) (c : Nat) (l : List SV) : Prop where
  le : l.length ≤ c
  cap : c ≤ maxLen
  none_ : A = none → l = [] ∧ c = 0
  cells : ∀ ad, A = some ad → ∀ k (h : k < l.length), ad.block < B ∧ w.cell? (ad.add (k * 2)) = some (.int .i64 (l[k]).1) ∧ w.cell? (ad.add (k * 2 + 1)) = some (.int .i64 (l[k]).2)
  nums : ∀ s ∈ l, T.R64 s.1 ∧ T.R64 s.2
namespace SpIn
variable {w w' : World} {B B' : Nat} {A : Option Addr} {c : Nat} {l : List SV}
theorem below (h : SpIn w B A c l) (hb : Below B w w') : SpIn w' B A c l :=
  ⟨h.le, h.cap, h.none_, fun ad e k hk => by
    obtain ⟨h1, h2, h3⟩ := h.cells ad e k hk
    exact ⟨h1, by rw [hb.cell (by rw [addr_blk]; exact h1)]; exact h2, by rw [hb.cell (by rw [addr_blk]; exact h1)]; exact h3⟩, h.nums⟩
theorem more (h : SpIn w B A c l) (hB : B ≤ B') : SpIn w B' A c l :=
  ⟨h.le, h.cap, h.none_, fun ad e k hk => ⟨Nat.lt_of_lt_of_le (h.cells ad e k hk).1 hB, (h.cells ad e k hk).2⟩, h.nums⟩
/-- On to a later world. -/
theorem on (h : SpIn w w.heap.size A c l) (hb : Below w.heap.size w w') : SpIn w' w'.heap.size A c l := (h.below hb).more hb.size
theorem nil_ (w : World) (B : Nat) : SpIn w B none 0 [] := ⟨Nat.le_refl _, by unfold maxLen; omega, fun _ => ⟨rfl, rfl⟩, fun _ e => (by cases e), by simp⟩
theorem nil_of (h : SpIn w B none c l) : l = [] ∧ c = 0 := h.none_ rfl
theorem at_ (h : SpIn w B A c l) {k : Nat} (hk : k < l.length) : ∃ ad, A = some ad ∧ ad.block < B ∧ w.cell? (ad.add (k * 2)) = some (.int .i64 (l[k]).1) ∧ w.cell? ((ad.add (k * 2)).add 1) = some (.int .i64 (l[k]).2) := by
  cases A with
  | none => obtain ⟨rfl, _⟩ := h.nil_of; simp at hk
  | some ad =>
    obtain ⟨h1, h2, h3⟩ := h.cells ad rfl k hk
    exact ⟨ad, rfl, h1, h2, by rw [addr_add]; exact h3⟩
end SpIn
/-- The cells of spans. -/
def spCells (l : List SV) : List Value := l.flatMap fun s => [.int .i64 s.1, .int .i64 s.2]
theorem spCells_len (l : List SV) : (spCells l).length = l.length * 2 := by
  unfold spCells
  induction l with
  | nil => rfl
  | cons f fs ih => simp only [List.flatMap_cons, List.length_append, ih, List.length_cons, List.length_nil]; omega
theorem spCells_append (l m : List SV) : spCells (l ++ m) = spCells l ++ spCells m := by simp [spCells]
theorem spCells_at : ∀ (l : List SV) (k : Nat) (h : k < l.length), (spCells l)[k * 2]? = some (.int .i64 (l[k]).1) ∧ (spCells l)[k * 2 + 1]? = some (.int .i64 (l[k]).2)
  | f :: fs, 0, _ => ⟨rfl, rfl⟩
  | f :: fs, k + 1, h => by
    have ih := spCells_at fs k (by simpa using h)
    have e : spCells (f :: fs) = .int .i64 f.1 :: .int .i64 f.2 :: spCells fs := rfl
    rw [e, show (k + 1) * 2 = k * 2 + 1 + 1 from by omega, show k * 2 + 1 + 1 + 1 = (k * 2 + 1) + 1 + 1 from rfl]
    simp only [List.getElem?_cons_succ, List.getElem_cons_succ]
    exact ih
/-- A slice that the program has made itself, of these spans. -/
def OwnSp (w : World) (base : Nat) (v : Value) (l : List SV) : Prop := w.ownsRow base 64 2 v l.length (spCells l)
theorem OwnSp.kept {w w' : World} {base : Nat} {v : Value} {l : List SV} (h : OwnSp w base v l) (hb : Below w.heap.size w w') : OwnSp w' base v l := by
  unfold OwnSp at *
  refine h.kept (row := none) ⟨hb.os, hb.tape, hb.output, hb.size, fun k hk _ => hb.block k hk⟩ ?_
  cases hv : v.ownBlock <;> simp
theorem OwnSp.lt {w : World} {base : Nat} {v : Value} {l : List SV} (h : OwnSp w base v l) : ∀ k, v.ownBlock = some k → base ≤ k ∧ k < w.heap.size := World.ownsRow.lt h
/-- What is owned is read. -/
theorem OwnSp.reads {w : World} {base : Nat} {v : Value} {l : List SV} (h : OwnSp w base v l) (hn : ∀ s ∈ l, T.R64 s.1 ∧ T.R64 s.2) : ∃ A c, v = .slice A l.length c ∧ SpIn w w.heap.size A c l := by
  rcases h.2 with ⟨rfl, h0⟩ | ⟨g, cap, cur, rfl, hb, hg, h1, h2, h3, h4⟩
  · have : l = [] := List.length_eq_zero_iff.1 h0
    subst this
    exact ⟨none, 0, rfl, SpIn.nil_ _ _⟩
  · refine ⟨some ⟨g, 0, none⟩, cap, rfl, h1, h2, fun e => (by cases e), fun ad e k hk => ?_, hn⟩
    injection e with e
    subst e
    have hgl : g < w.heap.size := (Array.getElem?_eq_some_iff.1 hg).1
    have hat := spCells_at l k hk
    have hc := World.ownsRow.cells h (g := g) rfl
    exact ⟨hgl, hc _ _ hat.1, hc _ _ hat.2⟩
theorem info_sp : (Try.prog.info? 64).map (fun i => (i.zero, i.size, i.bytes)) = some (some (.agg #[.int .i64 0, .int .i64 0]), 2, 16) := by kernel_rfl
theorem one_cell_sp (l : List SV) : ∀ u ∈ spCells l, u.oneCell' = true := by
  intro u hu
  obtain ⟨s, _, h⟩ := List.mem_flatMap.1 hu
  simp only [List.mem_cons, List.not_mem_nil, or_false] at h
  rcases h with rfl | rfl <;> rfl
theorem SpIn.news {w : World} {B c : Nat} {ad : Addr} {l : List SV} (h : SpIn w B (some ad) c l) : ∀ j u, (spCells l)[j]? = some u → w.cell? (ad.add j) = some u := by
  intro j u hu
  have hj : j < l.length * 2 := by
    have := (List.getElem?_eq_some_iff.1 hu).1
    rwa [spCells_len] at this
  have hk : j / 2 < l.length := by omega
  obtain ⟨_, c0, c1⟩ := h.cells ad rfl (j / 2) hk
  have hat := spCells_at l (j / 2) hk
  rcases Nat.mod_two_eq_zero_or_one j with e | e
  · have e2 : j / 2 * 2 = j := by omega
    rw [e2] at c0 hat
    rw [c0, ← hat.1, hu]
  · have e2 : j / 2 * 2 + 1 = j := by omega
    rw [e2] at c1
    have := hat.2
    rw [e2] at this
    rw [c1, ← this, hu]
/-- append of what is read as spans to a slice of the program's own. -/
theorem wp_append_sp {w : World} {ops : Array Oper} {rest : List Oper} {o : Oper} {a : Act} {Q : Exit → Act → World → Prop} (hgd : o.guard = none) (s x : Operand)
    (ho : o.op = .call { callee := .builtin .append, args := #[s, x], argTypes := #[22, 22] })
    (base : Nat) (v : Value) (l0 : List SV) (hs : a.eval s = v) (hown : OwnSp w base v l0) (B : Nat) (A : Option Addr) (m c : Nat) (l : List SV) (hx : a.eval x = .slice A m c) (hm : l.length = m) (hl : SpIn w B A c l)
    (hn : l0.length + m ≤ 1000000) (hbase : base ≤ w.heap.size)
    (h : ∀ v' w', OwnSp w' base v' (l0 ++ l) → Below base w w' → (v' = .slice none 0 0 ↔ v = .slice none 0 0 ∧ m = 0) → wpList Try.prog ops Q rest (a.put o.dst v') w') : wpList Try.prog ops Q (o :: rest) a w := by
  obtain ⟨i0, hi, hz0, hz1, hz2⟩ := info_parts info_sp
  cases A with
  | none =>
    obtain ⟨rfl, rfl⟩ := hl.nil_of
    obtain rfl : m = 0 := hm.symm
    refine wpList_append_own_none hgd s x _ ho base 64 i0 2 Try.underlying22 hi v l0.length (spCells l0) hs hown hx ?_
    exact h v w (by rw [List.append_nil]; exact hown) (Below.refl _ _) ⟨fun e => ⟨e, rfl⟩, fun e => e.1⟩
  | some ad =>
    refine wpList_append_own w hgd s x _ ho base 64 i0 (.agg #[.int .i64 0, .int .i64 0]) 2 16 Try.underlying22 hi hz0 hz1 hz2 rfl (by decide) v l0.length (spCells l0) hs hown ad m c (spCells l) hx (by rw [spCells_len, hm]) hl.news (one_cell_sp l) (by unfold maxLen; omega) (by omega) hbase ?_
    intro v' w' h1 h2 h3
    refine h v' w' ?_ ((Below.refl base w).grown h2 hbase (fun j hj => (hown.lt j hj).1)) h3
    unfold OwnSp
    rw [List.length_append, hm, spCells_append]
    exact h1
/-- The slice of one span that append is handed. -/
theorem made_sp (w : World) (x y : Int) (hx : T.R64 x) (hy : T.R64 y) (t : TypeId) : SpIn (w.alloc (.cells #[.int .i64 x, .int .i64 y] t)) (w.heap.size + 1) (some ⟨w.heap.size, 0, none⟩) 1 [(x, y)] :=
  ⟨Nat.le_refl _, by unfold maxLen; omega, fun e => (by cases e), fun ad e k hk => by
    injection e with e
    subst e
    simp only [List.length_cons, List.length_nil] at hk
    obtain rfl : k = 0 := by omega
    exact ⟨Nat.lt_succ_self _, by simp [Addr.add], by simp [Addr.add]⟩, by simpa using ⟨hx, hy⟩⟩
def OwnPost (l : List SV) (w : World) (e : Ending) (w' : World) : Prop := ∃ v, e = .returned v ∧ OwnSp w' w.heap.size v l ∧ Below w.heap.size w w'
theorem own_post {l : List SV} {w w' : World} {v : Value} (h : OwnSp w' w.heap.size v l) (hb : Below w.heap.size w w') : OwnPost l w (.returned v) w' := ⟨v, rfl, h, hb⟩
end Go.Proofs.Ytdkfaepmgennjaa
