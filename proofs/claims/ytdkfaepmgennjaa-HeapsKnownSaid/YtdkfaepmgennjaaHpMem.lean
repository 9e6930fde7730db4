/- The list of a queue's values in memory. -/
import Derived.Test.YtdkfaepmgennjaaHpCmp
import Derived.Laws.AppendOwn
namespace Go.Proofs.Ytdkfaepmgennjaa
open Go.RowKit
open H (IT)
set_option linter.unusedSimpArgs false
def itCells (l : List IT) : List Value := l.flatMap fun x => [.int .i64 x.1, .int .i64 x.2]
theorem itCells_append (l m : List IT) : itCells (l ++ m) = itCells l ++ itCells m := by simp [itCells]
theorem itCells_cons (x : IT) (l : List IT) : itCells (x :: l) = .int .i64 x.1 :: .int .i64 x.2 :: itCells l := rfl
theorem itCells_len : ∀ l : List IT, (itCells l).length = l.length * 2
  | [] => rfl
  | x :: l => by rw [itCells_cons, List.length_cons, List.length_cons, itCells_len l, List.length_cons]; omega
theorem itCells_at : ∀ (l : List IT) (k : Nat) (hk : k < l.length), (itCells l)[k * 2]? = some (.int .i64 (l[k]).1) ∧ (itCells l)[k * 2 + 1]? = some (.int .i64 (l[k]).2)
  | x :: l, 0, _ => ⟨rfl, rfl⟩
  | x :: l, k + 1, hk => by
    have h := itCells_at l k (by simpa using hk)
    rw [itCells_cons, show (k + 1) * 2 = k * 2 + 1 + 1 by omega]
    simpa using h
/-- The own list of a queue. -/
def OwnIt (w : World) (v : Value) (l : List IT) : Prop := w.ownsRow 0 64 2 v l.length (itCells l)
theorem OwnIt.nil_ (w : World) : OwnIt w (.slice none 0 0) [] := World.ownsRow_nil _ _ _ _
theorem OwnIt.kept {w w' : World} {v : Value} {l : List IT} (h : OwnIt w v l) (hb : ∀ k, v.ownBlock = some k → w'.heap[k]? = w.heap[k]?) : OwnIt w' v l := by
  rcases h with ⟨h1, h2 | ⟨g, cap, cur, rfl, h3, h4, h5⟩⟩
  · exact ⟨h1, .inl h2⟩
  · exact ⟨h1, .inr ⟨g, cap, cur, rfl, h3, (hb g rfl).trans h4, h5⟩⟩
theorem OwnIt.lt {w : World} {v : Value} {l : List IT} (h : OwnIt w v l) : ∀ k, v.ownBlock = some k → k < w.heap.size := fun k hk => (World.ownsRow.lt h k hk).2
theorem OwnIt.below {w w' : World} {v : Value} {l : List IT} (h : OwnIt w v l) (hb : Below w.heap.size w w') : OwnIt w' v l := h.kept fun k hk => hb.block k (h.lt k hk)
theorem OwnIt.at_ {w : World} {gl cap m : Nat} {l : List IT} (h : OwnIt w (.slice (some ⟨gl, 0, none⟩) m cap) l) {k : Nat} (hk : k < l.length) : gl < w.heap.size ∧ w.cell? ⟨gl, k * 2, none⟩ = some (.int .i64 (l[k]).1) ∧ w.cell? ⟨gl, k * 2 + 1, none⟩ = some (.int .i64 (l[k]).2) := by
  have hc := World.ownsRow.cells h (g := gl) rfl
  have ha := itCells_at l k hk
  have e : ∀ j, (⟨gl, 0, none⟩ : Addr).add j = ⟨gl, j, none⟩ := fun j => by unfold Addr.add; split <;> simp_all
  refine ⟨h.lt gl rfl, ?_, ?_⟩
  · have := hc _ _ ha.1; rwa [e] at this
  · have := hc _ _ ha.2; rwa [e] at this
/-- A list that is not empty lies in a block. -/
theorem OwnIt.some_ {w : World} {v : Value} {l : List IT} (h : OwnIt w v l) : (v = .slice none 0 0 ∧ l = []) ∨ ∃ gl cap, v = .slice (some ⟨gl, 0, none⟩) l.length cap ∧ l.length ≤ cap ∧ cap ≤ maxLen ∧ gl < w.heap.size := by
  have h' := h
  rcases h with ⟨h1, ⟨h2, h3⟩ | ⟨g, cap, cur, rfl, h3, h4, h5, h6, h7⟩⟩
  · exact .inl ⟨h2, List.length_eq_zero_iff.1 h3⟩
  · exact .inr ⟨g, cap, rfl, h5, h6, h'.lt g rfl⟩
end Go.Proofs.Ytdkfaepmgennjaa
