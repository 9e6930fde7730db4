/- A slice of slices of bytes that reads as a list of lists. -/
import Derived.Test.YtgpgnfdbjljljaaDoorShaEq
namespace Go.Proofs.YtgpgnfdbjljljaaDoor
open Go.RowKit
/-- A slice of slices of bytes that reads as a list of lists. -/
structure PartsIn (w : World) (B : Nat) (A : Option Addr) (ps : List (List UInt8)) : Prop where
  cells : ∀ i l, ps[i]? = some l → ∃ ad, A = some ad ∧ ad.block < B ∧ ∃ Ai ci, w.cell? (ad.add i) = some (.slice Ai l.length ci) ∧ BytesIn w B Ai ci l
theorem PartsIn.below {w w' : World} {B : Nat} {A : Option Addr} {ps : List (List UInt8)} (h : PartsIn w B A ps) (hb : Below B w w') : PartsIn w' B A ps :=
  ⟨fun i l hl => by
    obtain ⟨ad, h1, h2, Ai, ci, h3, h4⟩ := h.cells i l hl
    exact ⟨ad, h1, h2, Ai, ci, (hb.cell (by rw [add_block]; exact h2)).trans h3, h4.below hb⟩⟩
theorem own_but {w w1 : World} {base B : Nat} {e : TypeId} {size : Nat} {v : Value} {n : Nat} {xs : List Value} (h : w.ownsRow base e size v n xs) (hb : S.But B w w1) (hB : B < base) : w1.ownsRow base e size v n xs := by
  refine ⟨h.1, ?_⟩
  rcases h.2 with h | ⟨g, cap, cur, h1, h2, h3, h4⟩
  · exact Or.inl h
  · exact Or.inr ⟨g, cap, cur, h1, h2, (hb.block g (Array.getElem?_eq_some_iff.1 h3).1 (by omega)).trans h3, h4⟩
namespace S
def cat (ps : List (List UInt8)) (k : Nat) : List UInt8 := (ps.take k).flatten
theorem cat_next {ps : List (List UInt8)} {k : Nat} {l : List UInt8} (h : ps[k]? = some l) : cat ps (k + 1) = cat ps k ++ l := by
  unfold cat
  have hk := (List.getElem?_eq_some_iff.1 h).1
  have he := (List.getElem?_eq_some_iff.1 h).2
  rw [List.take_succ_eq_append_getElem hk, he, List.flatten_append, List.flatten_cons, List.flatten_nil, List.append_nil]
end S
end Go.Proofs.YtgpgnfdbjljljaaDoor
