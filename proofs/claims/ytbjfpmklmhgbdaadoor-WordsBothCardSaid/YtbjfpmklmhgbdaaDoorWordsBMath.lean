/- The line of two lists of fields together. -/
import Derived.Test.YtbjfpmklmhgbdaaDoorWordsRJn
namespace Go.Proofs.YtbjfpmklmhgbdaaDoor
open Go.RowKit
namespace W
theorem join_two (sep : List UInt8) : ∀ (xs ys : List (List UInt8)), xs ≠ [] → ys ≠ [] → Lib.join (xs ++ ys) sep = Lib.join xs sep ++ sep ++ Lib.join ys sep
  | [], _, h, _ => absurd rfl h
  | x :: xs, [], _, h => absurd rfl h
  | x :: xs, y :: ys, _, _ => by
    rw [List.cons_append, Lib.join_cons, Lib.join_cons, Lib.join_cons]
    simp [Lib.joinTail]
theorem line_two {l m : List FV} (hl : l ≠ []) (hm : m ≠ []) : lineB (l ++ m) = lineB l ++ [32] ++ lineB m := by
  unfold lineB
  rw [List.map_append, join_two]
  · simpa using hl
  · simpa using hm
theorem line_two_len {l m : List FV} (hl : l ≠ []) (hm : m ≠ []) : (lineB (l ++ m)).length = (lineB l).length + 1 + (lineB m).length := by
  rw [line_two hl hm]; simp; omega
theorem long_left {l m : List FV} (h : longF l = true) : longF (l ++ m) = true := by
  unfold longF at h ⊢
  rw [Bool.or_eq_true] at h ⊢
  rcases h with h | h
  · exact Or.inl (by rw [List.any_append, h]; rfl)
  · exact Or.inr (decide_eq_true (by have := of_decide_eq_true h; rw [List.length_append]; omega))
theorem long_right {l m : List FV} (h : longF m = true) : longF (l ++ m) = true := by
  unfold longF at h ⊢
  rw [Bool.or_eq_true] at h ⊢
  rcases h with h | h
  · exact Or.inl (by rw [List.any_append, h, Bool.or_true])
  · exact Or.inr (decide_eq_true (by have := of_decide_eq_true h; rw [List.length_append]; omega))
theorem long_two {l m : List FV} (hl : longF l = false) (hm : longF m = false) : longF (l ++ m) = decide (64 < l.length + m.length) := by
  unfold longF at hl hm ⊢
  rw [Bool.or_eq_false_iff] at hl hm
  rw [List.any_append, hl.1, hm.1, List.length_append]
  rfl
theorem joinE_zero {fs : List FV} (h : joinE fs = 0) : longF fs = false ∧ fs.any badF = false ∧ (lineB fs).length ≤ 8192 ∧ joinV fs = lineB fs := by
  unfold joinE at h
  split at h
  · omega
  · rename_i h1
    split at h
    · omega
    · rename_i h2
      split at h
      · omega
      · rename_i h3
        have e1 : longF fs = false := by simpa using h1
        have e2 : fs.any badF = false := by cases hb : fs.any badF <;> simp [hb] at h2 ⊢
        refine ⟨e1, e2, by omega, ?_⟩
        unfold joinV
        rw [if_neg]
        rintro (h | h | h)
        · exact h1 h
        · exact h2 h
        · exact h3 h
theorem joinE_not {fs : List FV} (h : joinE fs ≠ 0) : longF fs = true ∨ fs.any badF = true ∨ 8192 < (lineB fs).length := by
  unfold joinE at h
  by_cases h1 : longF fs = true
  · exact Or.inl h1
  · by_cases h2 : fs.any badF = true
    · exact Or.inr (Or.inl h2)
    · by_cases h3 : 8192 < (lineB fs).length
      · exact Or.inr (Or.inr h3)
      · rw [if_neg h1, if_neg h2, if_neg h3] at h; exact absurd rfl h
theorem joinE_of {fs : List FV} (h : longF fs = true ∨ fs.any badF = true ∨ 8192 < (lineB fs).length) : joinE fs ≠ 0 := by
  intro h0
  obtain ⟨h1, h2, h3, _⟩ := joinE_zero h0
  rcases h with h | h | h
  · rw [h1] at h; cases h
  · rw [h2] at h; cases h
  · omega
/-- If one of two lists has no line, both together have none. -/
theorem both_bad {l m : List FV} (hl : l ≠ []) (hm : m ≠ []) (h : joinE l ≠ 0 ∨ joinE m ≠ 0) : joinE (l ++ m) ≠ 0 := by
  apply joinE_of
  have hlen := line_two_len hl hm
  rcases h with h | h
  · rcases joinE_not h with h | h | h
    · exact Or.inl (long_left h)
    · exact Or.inr (Or.inl (by rw [List.any_append, h]; rfl))
    · exact Or.inr (Or.inr (by omega))
  · rcases joinE_not h with h | h | h
    · exact Or.inl (long_right h)
    · exact Or.inr (Or.inl (by rw [List.any_append, h, Bool.or_true]))
    · exact Or.inr (Or.inr (by omega))
/-- If both have a line, their line is too long, or that of both with a space between. -/
theorem both_far {l m : List FV} (hl : l ≠ []) (hm : m ≠ []) (h1 : joinE l = 0) (h2 : joinE m = 0) (h : 64 < l.length + m.length ∨ 8192 < (joinV l).length + 1 + (joinV m).length) : joinE (l ++ m) = 3 ∧ joinV (l ++ m) = [] := by
  obtain ⟨a1, a2, a3, a4⟩ := joinE_zero h1
  obtain ⟨b1, b2, b3, b4⟩ := joinE_zero h2
  have hlen := line_two_len hl hm
  have hlong := long_two a1 b1
  have hbad : (l ++ m).any badF = false := by rw [List.any_append, a2, b2]; rfl
  rw [a4, b4] at h
  by_cases h64 : 64 < l.length + m.length
  · have hL : longF (l ++ m) = true := by rw [hlong]; exact decide_eq_true h64
    unfold joinE joinV
    rw [if_pos hL, if_pos (Or.inl hL)]; exact ⟨rfl, rfl⟩
  · have hL : longF (l ++ m) = false := by rw [hlong]; exact decide_eq_false h64
    have h8 : 8192 < (lineB (l ++ m)).length := by omega
    unfold joinE joinV
    rw [hL, hbad, if_neg (by simp), if_neg (by simp), if_pos h8, if_pos (Or.inr (Or.inr h8))]; exact ⟨rfl, rfl⟩
theorem both_good {l m : List FV} (hl : l ≠ []) (hm : m ≠ []) (h1 : joinE l = 0) (h2 : joinE m = 0) (h : ¬ (64 < l.length + m.length ∨ 8192 < (joinV l).length + 1 + (joinV m).length)) : joinE (l ++ m) = 0 ∧ joinV (l ++ m) = joinV l ++ [32] ++ joinV m := by
  obtain ⟨a1, a2, a3, a4⟩ := joinE_zero h1
  obtain ⟨b1, b2, b3, b4⟩ := joinE_zero h2
  have hlen := line_two_len hl hm
  have hlong := long_two a1 b1
  have hbad : (l ++ m).any badF = false := by rw [List.any_append, a2, b2]; rfl
  rw [a4, b4] at h ⊢
  have hL : longF (l ++ m) = false := by rw [hlong]; exact decide_eq_false (by omega)
  have h8 : ¬ 8192 < (lineB (l ++ m)).length := by omega
  have hz : joinE (l ++ m) = 0 := by
    unfold joinE; rw [hL, hbad, if_neg (by simp), if_neg (by simp), if_neg h8]
  exact ⟨hz, by rw [(joinE_zero hz).2.2.2, line_two hl hm]⟩
end W
/-- An own row of fields reads as its list. -/
theorem FieldsIn.of_own {w : World} {base : Nat} {A : Option Addr} {n c : Nat} {fs : List FV} (hn : n = fs.length) (h : w.ownsRow base 45 2 (.slice A n c) n (fCells fs)) : FieldsIn w w.heap.size A c fs := by
  rcases h.2 with ⟨h1, h2⟩ | ⟨g, cap, cur, h1, _, h3, h4, h5, _⟩
  · injection h1 with e1 e2 e3
    subst e1 e3
    have : fs = [] := List.length_eq_zero_iff.1 (by omega)
    subst this
    exact FieldsIn.nil_ _ _
  · injection h1 with e1 e2 e3
    subst e1 e3
    refine ⟨by omega, h5, fun e => (by cases e), fun ad e k hk => ?_⟩
    injection e with e
    subst e
    have hlt := (Array.getElem?_eq_some_iff.1 h3).1
    have hx := fCells_at fs k hk
    have hcell := h.cells (g := g) rfl
    refine ⟨hlt, ?_, ?_⟩
    · exact hcell (k * 2) _ (by rw [Nat.mul_comm]; exact hx.1)
    · exact hcell (k * 2 + 1) _ (by rw [Nat.mul_comm]; exact hx.2)
end Go.Proofs.YtbjfpmklmhgbdaaDoor
