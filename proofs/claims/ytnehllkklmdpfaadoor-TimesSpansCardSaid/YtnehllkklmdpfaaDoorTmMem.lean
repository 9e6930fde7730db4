/- A slice of spans that reads as a list. -/
import Derived.Test.YtnehllkklmdpfaaDoorTmRVals
import Derived.Laws.AppendOwn
import Derived.Laws.AppendOwnNone
namespace Go.Proofs.YtnehllkklmdpfaaDoor
open Go.RowKit
open T (SV)
theorem addr_block (a : Addr) (n : Nat) : (a.add n).block = a.block := by unfold Addr.add; split <;> rfl
theorem addr_add (a : Addr) (i j : Nat) : (a.add i).add j = a.add (i + j) := by
  unfold Addr.add
  by_cases hi : i = 0 <;> by_cases hj : j = 0 <;> simp [hi, hj, Nat.add_assoc]
theorem addr_one (a : Addr) : a.add 1 = ⟨a.block, a.off + 1, none⟩ := rfl
theorem addr_lit (g o k : Nat) : (⟨g, o, none⟩ : Addr).add k = ⟨g, o + k, none⟩ := by unfold Addr.add; split <;> simp_all
theorem bt {w W w1 : World} {B : Nat} (h0 : Below B w W) (hB : B ≤ W.heap.size) (hb : Below W.heap.size W w1) : Below B w w1 := h0.trans (hb.mono hB)
/-- The slice '.slice A n c' reads as the spans l, which are numbers of 64 bits, and lies below block B. -/
structure SpIn (w : World) (B : Nat) (A : Option Addr) (c : Nat) (l : List SV) : Prop where
  le : l.length ≤ c
  cap : c ≤ maxLen
  none_ : A = none → l = [] ∧ c = 0
  cells : ∀ ad, A = some ad → ∀ k (h : k < l.length), ad.block < B ∧ w.cell? (ad.add (k * 2)) = some (.int .i64 (l[k]).1) ∧ w.cell? (ad.add (k * 2 + 1)) = some (.int .i64 (l[k]).2)
  nums : ∀ s ∈ l, T.R64 s.1 ∧ T.R64 s.2
namespace SpIn
variable {w w' : World} {B B' : Nat} {A : Option Addr} {c : Nat} {l : List SV}
theorem below (h : SpIn w B A c l) (hb : Below B w w') : SpIn w' B A c l :=
  ⟨h.le, h.cap, h.none_, fun ad e k hk => by
    obtain ⟨h1, h2, h3⟩ := h.cells ad e k hk
    exact ⟨h1, by rw [hb.cell (by rw [addr_block]; exact h1)]; exact h2, by rw [hb.cell (by rw [addr_block]; exact h1)]; exact h3⟩, h.nums⟩
theorem more (h : SpIn w B A c l) (hB : B ≤ B') : SpIn w B' A c l :=
  ⟨h.le, h.cap, h.none_, fun ad e k hk => ⟨Nat.lt_of_lt_of_le (h.cells ad e k hk).1 hB, (h.cells ad e k hk).2⟩, h.nums⟩
/-- On to a later world. -/
theorem on (h : SpIn w w.heap.size A c l) (hb : Below w.heap.size w w') : SpIn w' w'.heap.size A c l := (h.below hb).more hb.size
theorem nil_ (w : World) (B : Nat) : SpIn w B none 0 [] := ⟨Nat.le_refl _, by unfold maxLen; omega, fun _ => ⟨rfl, rfl⟩, fun _ e => (by cases e), by simp⟩
theorem nil_of (h : SpIn w B none c l) : l = [] ∧ c = 0 := h.none_ rfl
theorem at_ (h : SpIn w B A c l) {k : Nat} (hk : k < l.length) : ∃ ad, A = some ad ∧ ad.block < B ∧ w.cell? (ad.add (k * 2)) = some (.int .i64 (l[k]).1) ∧ w.cell? ((ad.add (k * 2)).add 1) = some (.int .i64 (l[k]).2) := by
  cases A with
  | none => obtain ⟨rfl, _⟩ := h.nil_of; simp at hk
  | some ad =>
    obtain ⟨h1, h2, h3⟩ := h.cells ad rfl k hk
    exact ⟨ad, rfl, h1, h2, by rw [addr_add]; exact h3⟩
end SpIn
/-- The cells of spans. -/
def spCells (l : List SV) : List Value := l.flatMap fun s => [.int .i64 s.1, .int .i64 s.2]
theorem spCells_len (l : List SV) : (spCells l).length = l.length * 2 := by
  unfold spCells
  induction l with
  | nil => rfl
  | cons f fs ih => simp only [List.flatMap_cons, List.length_append, ih, List.length_cons, List.length_nil]; omega
theorem spCells_append (l m : List SV) : spCells (l ++ m) = spCells l ++ spCells m := by simp [spCells]
theorem spCells_at : ∀ (l : List SV) (k : Nat) (h : k < l.length), (spCells l)[k * 2]? = some (.int .i64 (l[k]).1) ∧ (spCells l)[k * 2 + 1]? = some (.int .i64 (l[k]).2)
  | f :: fs, 0, _ => ⟨rfl, rfl⟩
  | f :: fs, k + 1, h => by
    have ih := spCells_at fs k (by simpa using h)
    have e : spCells (f :: fs) = .int .i64 f.1 :: .int .i64 f.2 :: spCells fs := rfl
    rw [e, show (k + 1) * 2 = k * 2 + 1 + 1 from by omega, show k * 2 + 1 + 1 + 1 = (k * 2 + 1) + 1 + 1 from rfl]
    simp only [List.getElem?_cons_succ, List.getElem_cons_succ]
    exact ih
/-- A slice that the program has made itself, of these spans. -/
def OwnSp (w : World) (base : Nat) (v : Value) (l : List SV) : Prop := w.ownsRow base 32 2 v l.length (spCells l)
theorem OwnSp.kept {w w' : World} {base : Nat} {v : Value} {l : List SV} (h : OwnSp w base v l) (hb : Below w.heap.size w w') : OwnSp w' base v l := by
  unfold OwnSp at *
  refine h.kept (row := none) ⟨hb.os, hb.tape, hb.output, hb.size, fun k hk _ => hb.block k hk⟩ ?_
  cases hv : v.ownBlock <;> simp
theorem OwnSp.lt {w : World} {base : Nat} {v : Value} {l : List SV} (h : OwnSp w base v l) : ∀ k, v.ownBlock = some k → base ≤ k ∧ k < w.heap.size := World.ownsRow.lt h
/-- What is owned is read. -/
theorem OwnSp.reads {w : World} {base : Nat} {v : Value} {l : List SV} (h : OwnSp w base v l) (hn : ∀ s ∈ l, T.R64 s.1 ∧ T.R64 s.2) : ∃ A c, v = .slice A l.length c ∧ SpIn w w.heap.size A c l := by
  rcases h.2 with ⟨rfl, h0⟩ | ⟨g, cap, cur, rfl, hb, hg, h1, h2, h3, h4⟩
  · have : l = [] := List.length_eq_zero_iff.1 h0
    subst this
    exact ⟨none, 0, rfl, SpIn.nil_ _ _⟩
  · refine ⟨some ⟨g, 0, none⟩, cap, rfl, h1, h2, fun e => (by cases e), fun ad e k hk => ?_, hn⟩
    injection e with e
    subst e
    have hgl : g < w.heap.size := (Array.getElem?_eq_some_iff.1 hg).1
    have hat := spCells_at l k hk
    have hc := World.ownsRow.cells h (g := g) rfl
    exact ⟨hgl, hc _ _ hat.1, hc _ _ hat.2⟩
theorem info_sp : (Tryd.prog.info? 32).map (fun i => (i.zero, i.size, i.bytes)) = some (some (.agg #[.int .i64 0, .int .i64 0]), 2, 16) := by kernel_rfl
end Go.Proofs.YtnehllkklmdpfaaDoor
