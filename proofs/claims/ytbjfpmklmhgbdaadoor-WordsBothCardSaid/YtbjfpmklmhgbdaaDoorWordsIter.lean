/- The iterator of a line's fields: what it yields, at every line. -/
import Derived.Test.YtbjfpmklmhgbdaaDoorWordsLine
import Derived.Test.YtbjfpmklmhgbdaaDoorWordsRange
import Derived.Shelf.Abstract

import Derived.LoopNIn
import Derived.LoopIn
namespace Go.Proofs.YtbjfpmklmhgbdaaDoor
open Go.RowKit Go.Shelf
attribute [local go_sem] Oper.semAt_some
/-- A field: its string, and whether it is quoted. -/
abbrev FV := List UInt8 × Bool
namespace W
/-- The field that a string begins with, and how many bytes it is written in (0: there is none). -/
def FRead (r s : List UInt8) (q : Bool) (n : Nat) : Prop :=
  (q = true ∧ r.headD 0 = 34 ∧ ReadsQ r s n) ∨ (q = false ∧ r.headD 0 ≠ 34 ∧ n = bareN r ∧ s = r.take n)
/-- No field ends here. -/
def badAt (r : List UInt8) (n : Nat) : Prop := n = 0 ∨ (n < r.length ∧ r.getD n 0 ≠ 32)
/-- What is read of a string that is not empty: fields, and whether that is all of it. -/
def Lex : List UInt8 → List FV → Bool → Prop
  | r, [], ok => ok = false ∧ ∃ s q n, FRead r s q n ∧ badAt r n
  | r, f :: fs, ok => ∃ n, FRead r f.1 f.2 n ∧ ¬ badAt r n ∧ ((n = r.length ∧ fs = [] ∧ ok = true) ∨ (n < r.length ∧ Lex (r.drop (n + 1)) fs ok))
/-- What is read of a line. -/
def LineF (l : List UInt8) (fs : List FV) (ok : Bool) : Prop := (l = [] ∧ fs = [] ∧ ok = true) ∨ (l ≠ [] ∧ Lex l fs ok)
/-- What is yielded: each field, and at the end none if the line is no line. -/
def goods (fs : List FV) : List (FV × Bool) := fs.map fun f => (f, true)
def yields (fs : List FV) (ok : Bool) : List (FV × Bool) := goods fs ++ if ok = true then [] else [(([], false), false)]
/-- What is still to be read. -/
def Rest (l : List UInt8) (fs0 : List FV) (r : List UInt8) : Prop := ∀ fs ok, Lex r fs ok → LineF l (fs0 ++ fs) ok
theorem fread_le {r s : List UInt8} {q : Bool} {n : Nat} (h : FRead r s q n) : n ≤ r.length := by
  rcases h with ⟨_, _, h⟩ | ⟨_, _, h, _⟩
  · exact reads_le h
  · rw [h]; exact bareN_le r
theorem reads_total (l : List UInt8) : ∃ b n, ReadsQ l b n := by
  by_cases h : ∃ b r, Begins l b r
  · obtain ⟨b, r, h⟩ := h
    exact ⟨b, _, Or.inl ⟨r, h, rfl⟩⟩
  · exact ⟨[], 0, Or.inr ⟨fun b r hb => h ⟨b, r, hb⟩, rfl, rfl⟩⟩
theorem fread_total (r : List UInt8) : ∃ s q n, FRead r s q n := by
  by_cases h : r.headD 0 = 34
  · obtain ⟨b, n, hb⟩ := reads_total r
    exact ⟨b, true, n, Or.inl ⟨rfl, h, hb⟩⟩
  · exact ⟨_, false, _, Or.inr ⟨rfl, h, rfl, rfl⟩⟩
theorem lex_total : ∀ (m : Nat) (r : List UInt8), r.length ≤ m → ∃ fs ok, Lex r fs ok := by
  intro m
  induction m with
  | zero =>
    intro r hr
    obtain ⟨s, q, n, h⟩ := fread_total r
    have := fread_le h
    exact ⟨[], false, rfl, s, q, n, h, Or.inl (by omega)⟩
  | succ m ih =>
    intro r hr
    obtain ⟨s, q, n, h⟩ := fread_total r
    by_cases hb : badAt r n
    · exact ⟨[], false, rfl, s, q, n, h, hb⟩
    · have hle := fread_le h
      by_cases hn : n = r.length
      · exact ⟨[(s, q)], true, n, h, hb, Or.inl ⟨hn, rfl, rfl⟩⟩
      · obtain ⟨fs, ok, hl⟩ := ih (r.drop (n + 1)) (by rw [List.length_drop]; omega)
        exact ⟨(s, q) :: fs, ok, n, h, hb, Or.inr ⟨by omega, hl⟩⟩
theorem rest_start {l : List UInt8} (h : l ≠ []) : Rest l [] l := fun _ _ hl => Or.inr ⟨h, hl⟩
theorem rest_bad {l r s : List UInt8} {fs0 : List FV} {q : Bool} {n : Nat} (h : Rest l fs0 r) (hf : FRead r s q n) (hb : badAt r n) : LineF l fs0 false := by
  have := h [] false ⟨rfl, s, q, n, hf, hb⟩
  simpa using this
theorem rest_end {l r s : List UInt8} {fs0 : List FV} {q : Bool} {n : Nat} (h : Rest l fs0 r) (hf : FRead r s q n) (hb : ¬ badAt r n) (hn : n = r.length) : LineF l (fs0 ++ [(s, q)]) true :=
  h [(s, q)] true ⟨n, hf, hb, Or.inl ⟨hn, rfl, rfl⟩⟩
theorem rest_next {l r s : List UInt8} {fs0 : List FV} {q : Bool} {n : Nat} (h : Rest l fs0 r) (hf : FRead r s q n) (hb : ¬ badAt r n) (hn : n < r.length) : Rest l (fs0 ++ [(s, q)]) (r.drop (n + 1)) := fun fs ok hl => by
  have := h ((s, q) :: fs) ok ⟨n, hf, hb, Or.inr ⟨hn, hl⟩⟩
  simpa using this
/-- What has been yielded is the beginning of what is yielded. -/
def Begun (l : List UInt8) (pre : List (FV × Bool)) : Prop := ∃ fs ok t, LineF l fs ok ∧ yields fs ok = pre ++ t
theorem begun_of {l r s : List UInt8} {fs0 : List FV} {q : Bool} {n : Nat} (h : Rest l fs0 r) (hf : FRead r s q n) (hb : ¬ badAt r n) : Begun l (goods fs0 ++ [((s, q), true)]) := by
  have hle := fread_le hf
  by_cases hn : n = r.length
  · exact ⟨_, true, [], rest_end h hf hb hn, by simp [yields, goods]⟩
  · obtain ⟨fs, ok, hl⟩ := lex_total _ (r.drop (n + 1)) (Nat.le_refl _)
    exact ⟨_, ok, goods fs ++ if ok = true then [] else [(([], false), false)], rest_next h hf hb (by omega) fs ok hl, by simp [yields, goods]⟩
/-- All that is yielded. -/
def Whole (l : List UInt8) (xs : List (FV × Bool)) : Prop := ∃ fs ok, LineF l fs ok ∧ xs = yields fs ok
end W
/-- What is yielded, as values. -/
def encF (x : FV × Bool) : Array Value := #[.agg #[.string ⟨x.1.1.toArray⟩, .bool x.1.2], .bool x.2]
/-- The iterator's own block: a field. -/
def OwnB (b : Nat) (Wd : World) : Prop := ∃ x y, x.oneCell' = true ∧ y.oneCell' = true ∧ Wd.heap[b]? = some (.cells #[x, y] 45 (0, 0))
/-- The iterator's frame at a label. -/
def Lab (l b c0 : Nat) (line : ByteArray) (J : List (FV × Bool) → World → Prop) (lbl : Nat) (a : Act) (Wd : World) : Prop :=
  ∃ (r : ByteArray) (fs0 : List FV) (sz u2 u6 u7 u8 u9 u10 u11 u12 u13 u14 u15 u16 u17 u18 u19 u20 u21 u22 u23 u24 u25 u26 u27 u28 u29 u30 u31 u32 u33 u34 u35 u36 u37 u38 u39 u40 u41 u42 u43 u44 u45 u46 u47 u48 u49 u50 u51 u52 u53 u54 u55 : Value),
    a = { tmps := #[.func (.yield l) #[] #[], .pointer (some ⟨c0, 0, none⟩), u2, .pointer (some ⟨b, 0, none⟩), sz, .string r, u6, u7, u8, u9, u10, u11, u12, u13, u14, u15, u16, u17, u18, u19, u20, u21, u22, u23, u24, u25, u26, u27, u28, u29, u30, u31, u32, u33, u34, u35, u36, u37, u38, u39, u40, u41, u42, u43, u44, u45, u46, u47, u48, u49, u50, u51, u52, u53, u54, u55], defers := [] } ∧
    W.Rest line.data.toList fs0 r.data.toList ∧ fs0.length + r.size ≤ line.size ∧ J (W.goods fs0) Wd ∧ b < Wd.heap.size ∧ OwnB b Wd ∧ EscIn Wd ∧
    (lbl = 1 ∨ (lbl = 0 ∧ r.data.toList.headD 0 = 34) ∨ (lbl = 2 ∧ ∃ s q n, sz = .int .i64 (n : Nat) ∧ W.FRead r.data.toList s q n ∧ Wd.heap[b]? = some (.cells #[.string ⟨s.toArray⟩, .bool q] 45 (0, 0))))
end Go.Proofs.YtbjfpmklmhgbdaaDoor
