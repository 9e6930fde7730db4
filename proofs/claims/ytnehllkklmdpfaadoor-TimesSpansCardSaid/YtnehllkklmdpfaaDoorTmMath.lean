/- Spans of time as lists of pairs: the times of a list, lists in their one ascending form, and what they have together. -/
import Derived.Lib.Hide
namespace Go.Proofs.YtnehllkklmdpfaaDoor
namespace T
abbrev SV := Int × Int
/-- A time lies in a span of a list. -/
def In (l : List SV) (t : Int) : Prop := ∃ s ∈ l, s.1 ≤ t ∧ t < s.2
/-- Each span has a time, and none touches a later one. -/
structure Asc (l : List SV) : Prop where
  some_ : ∀ s ∈ l, s.1 < s.2
  apart : l.Pairwise fun a b => a.2 < b.1
theorem in_nil (t : Int) : ¬ In [] t := fun ⟨_, h, _⟩ => by cases h
theorem in_cons {a : SV} {l : List SV} {t : Int} : In (a :: l) t ↔ (a.1 ≤ t ∧ t < a.2) ∨ In l t := by
  unfold In
  constructor
  · rintro ⟨s, h, hs⟩
    rcases List.mem_cons.1 h with rfl | h
    · exact Or.inl hs
    · exact Or.inr ⟨s, h, hs⟩
  · rintro (h | ⟨s, h, hs⟩)
    · exact ⟨a, by simp, h⟩
    · exact ⟨s, by simp [h], hs⟩
theorem in_append {l m : List SV} {t : Int} : In (l ++ m) t ↔ In l t ∨ In m t := by
  unfold In
  constructor
  · rintro ⟨s, h, hs⟩
    rcases List.mem_append.1 h with h | h
    · exact Or.inl ⟨s, h, hs⟩
    · exact Or.inr ⟨s, h, hs⟩
  · rintro (⟨s, h, hs⟩ | ⟨s, h, hs⟩)
    · exact ⟨s, by simp [h], hs⟩
    · exact ⟨s, by simp [h], hs⟩
theorem in_one {a : SV} {t : Int} : In [a] t ↔ a.1 ≤ t ∧ t < a.2 := by
  rw [in_cons]
  exact ⟨fun h => h.elim id (fun h => absurd h (in_nil t)), Or.inl⟩
theorem in_perm {l m : List SV} (h : ∀ s, s ∈ l ↔ s ∈ m) (t : Int) : In l t ↔ In m t :=
  ⟨fun ⟨s, a, b⟩ => ⟨s, (h s).1 a, b⟩, fun ⟨s, a, b⟩ => ⟨s, (h s).2 a, b⟩⟩
namespace Asc
theorem nil : Asc [] := ⟨by simp, List.Pairwise.nil⟩
theorem tail {a : SV} {l : List SV} (h : Asc (a :: l)) : Asc l := ⟨fun s hs => h.some_ s (by simp [hs]), (List.pairwise_cons.1 h.apart).2⟩
theorem head {a : SV} {l : List SV} (h : Asc (a :: l)) : a.1 < a.2 := h.some_ a (by simp)
theorem beyond {a : SV} {l : List SV} (h : Asc (a :: l)) : ∀ s ∈ l, a.2 < s.1 := (List.pairwise_cons.1 h.apart).1
theorem in_beyond {a : SV} {l : List SV} {t : Int} (h : Asc (a :: l)) (ht : In l t) : a.2 < t := by
  obtain ⟨s, hs, h1, _⟩ := ht
  have := h.beyond s hs
  omega
theorem push {l : List SV} {s : SV} (h : Asc l) (hs : s.1 < s.2) (hb : ∀ a ∈ l, a.2 < s.1) : Asc (l ++ [s]) :=
  ⟨fun a ha => by
    rcases List.mem_append.1 ha with ha | ha
    · exact h.some_ a ha
    · rw [List.mem_singleton.1 ha]; exact hs,
  List.pairwise_append.2 ⟨h.apart, by simp, fun a ha b hb' => by rw [List.mem_singleton.1 hb']; exact hb a ha⟩⟩
theorem append {l m : List SV} (h : Asc l) (k : Asc m) (hb : ∀ a ∈ l, ∀ b ∈ m, a.2 < b.1) : Asc (l ++ m) :=
  ⟨fun a ha => by
    rcases List.mem_append.1 ha with ha | ha
    · exact h.some_ a ha
    · exact k.some_ a ha, List.pairwise_append.2 ⟨h.apart, k.apart, hb⟩⟩
theorem front {l m : List SV} (h : Asc (l ++ m)) : Asc l := ⟨fun a ha => h.some_ a (by simp [ha]), (List.pairwise_append.1 h.apart).1⟩
theorem back {l m : List SV} (h : Asc (l ++ m)) : Asc m := ⟨fun a ha => h.some_ a (by simp [ha]), (List.pairwise_append.1 h.apart).2.1⟩
theorem cross {l m : List SV} (h : Asc (l ++ m)) : ∀ a ∈ l, ∀ b ∈ m, a.2 < b.1 := (List.pairwise_append.1 h.apart).2.2
end Asc
theorem asc_uniq : ∀ {l m : List SV}, Asc l → Asc m → (∀ t, In l t ↔ In m t) → l = m
  | [], [], _, _, _ => rfl
  | [], b :: m, _, k, e => absurd ((e b.1).2 (in_cons.2 (Or.inl ⟨by omega, k.head⟩))) (in_nil _)
  | a :: l, [], h, _, e => absurd ((e a.1).1 (in_cons.2 (Or.inl ⟨by omega, h.head⟩))) (in_nil _)
  | a :: l, b :: m, h, k, e => by
    have ha := h.head
    have hb := k.head
    have least : ∀ {x y : SV} {p q : List SV}, Asc (x :: p) → Asc (y :: q) → (∀ t, In (x :: p) t → In (y :: q) t) → y.1 ≤ x.1 := by
      intro x y p q hx hy hi
      rcases in_cons.1 (hi x.1 (in_cons.2 (Or.inl ⟨by omega, hx.head⟩))) with h1 | h1
      · omega
      · have := hy.in_beyond h1
        have := hy.head
        omega
    have most : ∀ {x y : SV} {p q : List SV}, Asc (x :: p) → Asc (y :: q) → x.1 = y.1 → (∀ t, In (y :: q) t → In (x :: p) t) → ¬ x.2 < y.2 := by
      intro x y p q hx hy hxy hi hlt
      have h0 := hx.head
      rcases in_cons.1 (hi x.2 (in_cons.2 (Or.inl ⟨by omega, hlt⟩))) with h1 | h1
      · omega
      · have := hx.in_beyond h1
        omega
    have e1 : a.1 = b.1 := by
      have := least h k (fun t => (e t).1)
      have := least k h (fun t => (e t).2)
      omega
    have e2 : a.2 = b.2 := by
      have := most h k e1 (fun t => (e t).2)
      have := most k h e1.symm (fun t => (e t).1)
      omega
    have e3 : l = m := asc_uniq h.tail k.tail (fun t => by
      constructor
      · intro ht
        have := h.in_beyond ht
        rcases in_cons.1 ((e t).1 (in_cons.2 (Or.inr ht))) with h1 | h1
        · omega
        · exact h1
      · intro ht
        have := k.in_beyond ht
        rcases in_cons.1 ((e t).2 (in_cons.2 (Or.inr ht))) with h1 | h1
        · omega
        · exact h1)
    rw [e3, show a = b from Prod.ext e1 e2]
/-- A list that has just these times, in its one form. -/
structure Canon (S : Int → Prop) (l : List SV) : Prop where
  asc : Asc l
  at_ : ∀ t, In l t ↔ S t
theorem Canon.eq {S : Int → Prop} {l m : List SV} (h : Canon S l) (k : Canon S m) : l = m := asc_uniq h.asc k.asc fun t => (h.at_ t).trans (k.at_ t).symm
theorem Canon.of {S R : Int → Prop} {l : List SV} (h : Canon S l) (e : ∀ t, S t ↔ R t) : Canon R l := ⟨h.asc, fun t => (h.at_ t).trans (e t)⟩
def big : Int := 9223372036854775807
/-- A list all of whose spans are spans. -/
def Good (l : List SV) : Prop := ∀ s ∈ l, 0 ≤ s.1 ∧ s.1 < s.2 ∧ s.2 ≤ big
theorem Canon.good {S : Int → Prop} {l : List SV} (h : Canon S l) (hS : ∀ t, S t → 0 ≤ t ∧ t < big) : Good l := fun s hs => by
  have h0 := h.asc.some_ s hs
  have h1 := hS s.1 ((h.at_ _).1 ⟨s, hs, by omega, h0⟩)
  have h2 := hS (s.2 - 1) ((h.at_ _).1 ⟨s, hs, by omega, by omega⟩)
  exact ⟨h1.1, h0, by omega⟩
theorem Good.within {l : List SV} (h : Good l) (t : Int) (ht : In l t) : 0 ≤ t ∧ t < big := by
  obtain ⟨s, hs, h1, h2⟩ := ht
  have := h s hs
  omega
theorem Good.asc_canon {l : List SV} (h : Asc l) : Canon (In l) l := ⟨h, fun _ => Iff.rfl⟩
theorem length_le_of_sub : ∀ {l L : List Int}, l.Nodup → (∀ x ∈ l, x ∈ L) → l.length ≤ L.length
  | [], _, _, _ => Nat.zero_le _
  | x :: l, L, hn, hs => by
    have hx := hs x (by simp)
    have hn' := List.nodup_cons.1 hn
    have := length_le_of_sub (l := l) (L := L.erase x) hn'.2 (fun y hy => (List.mem_erase_of_ne (fun e => hn'.1 (by rw [← e]; exact hy))).2 (hs y (by simp [hy])))
    rw [List.length_erase_of_mem hx] at this
    have := List.length_pos_of_mem hx
    simp only [List.length_cons]
    omega
/-- What a list has and another has not, in its one form, has no more spans than both. -/
theorem canon_len {A B m : List SV} (h : Canon (fun t => In A t ∧ ¬ In B t) m) : m.length ≤ A.length + B.length := by
  have hn : (m.map Prod.snd).Nodup := by
    rw [List.nodup_iff_pairwise_ne, List.pairwise_map]
    refine (List.Pairwise.imp_of_mem ?_ h.asc.apart)
    intro a b _ hb hab
    have := h.asc.some_ b hb
    omega
  have := length_le_of_sub (L := A.map Prod.snd ++ B.map Prod.fst) hn (fun x hx => by
    obtain ⟨s, hs, rfl⟩ := List.mem_map.1 hx
    have h0 := h.asc.some_ s hs
    have hin : In m (s.2 - 1) := ⟨s, hs, by omega, by omega⟩
    have hout : ¬ In m s.2 := by
      rintro ⟨r, hr, h1, h2⟩
      obtain ⟨p, q, rfl⟩ := List.append_of_mem hs
      have hc := h.asc
      rcases List.mem_append.1 hr with h3 | h3
      · have := hc.cross r h3 s (by simp)
        omega
      · rcases List.mem_cons.1 h3 with rfl | h3
        · omega
        · have := hc.back.beyond r h3
          omega
    obtain ⟨⟨r, hr, h1, h2⟩, hb⟩ := (h.at_ _).1 hin
    by_cases hA : In A s.2
    · have hB : In B s.2 := Classical.byContradiction fun hB => hout ((h.at_ _).2 ⟨hA, hB⟩)
      obtain ⟨q, hq, h3, h4⟩ := hB
      have : ¬ (q.1 ≤ s.2 - 1) := fun h5 => hb ⟨q, hq, h5, by omega⟩
      have e : q.1 = s.2 := by omega
      exact List.mem_append.2 (Or.inr (e ▸ List.mem_map.2 ⟨q, hq, rfl⟩))
    · have : ¬ (s.2 < r.2) := fun h5 => hA ⟨r, hr, by omega, h5⟩
      have e : r.2 = s.2 := by omega
      exact List.mem_append.2 (Or.inl (e ▸ List.mem_map.2 ⟨r, hr, rfl⟩)))
  simpa using this
theorem canon_len_union {A m : List SV} (h : Canon (In A) m) : m.length ≤ A.length := by
  have := canon_len (A := A) (B := []) (h.of fun t => ⟨fun h => ⟨h, in_nil t⟩, fun h => h.1⟩)
  simpa using this
/-! ### The rounds of joining -/
/-- A span that begins not before the others, and not behind the last one's end. -/
theorem merge {init : List SV} {f e : Int} {s : SV} {S : Int → Prop} (h : Canon S (init ++ [(f, e)])) (h1 : f ≤ s.1) (h2 : s.1 ≤ e) :
    Canon (fun t => S t ∨ (s.1 ≤ t ∧ t < s.2)) (init ++ [(f, max e s.2)]) := by
  have h0 := h.asc.back.head
  have hx := h.asc.cross
  refine ⟨h.asc.front.push (by simp only at h0 ⊢; omega) (fun a ha => hx a ha (f, e) (by simp)), fun t => ?_⟩
  rw [in_append, in_one, ← h.at_ t, in_append, in_one]
  simp only at h0 ⊢
  constructor
  · rintro (h | ⟨h3, h4⟩)
    · exact Or.inl (Or.inl h)
    · by_cases h5 : t < e
      · exact Or.inl (Or.inr ⟨h3, h5⟩)
      · exact Or.inr ⟨by omega, by omega⟩
  · rintro ((h | ⟨h3, h4⟩) | ⟨h3, h4⟩)
    · exact Or.inl h
    · exact Or.inr ⟨h3, by omega⟩
    · exact Or.inr ⟨by omega, by omega⟩
theorem push {l : List SV} {s : SV} {S : Int → Prop} (h : Canon S l) (hs : s.1 < s.2) (hb : ∀ a ∈ l, a.2 < s.1) : Canon (fun t => S t ∨ (s.1 ≤ t ∧ t < s.2)) (l ++ [s]) :=
  ⟨h.asc.push hs hb, fun t => by rw [in_append, in_one, h.at_ t]⟩
/-- All spans end before a time, if the last one does. -/
theorem ends_before {init : List SV} {f e : Int} (h : Asc (init ++ [(f, e)])) {x : Int} (hx : e < x) : ∀ a ∈ init ++ [(f, e)], a.2 < x := by
  intro a ha
  rcases List.mem_append.1 ha with ha | ha
  · have := h.cross a ha (f, e) (by simp)
    have := h.back.head
    simp only at *
    omega
  · rw [List.mem_singleton.1 ha]; exact hx
end T
end Go.Proofs.YtnehllkklmdpfaaDoor
