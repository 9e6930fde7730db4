/- Spans of time: the rounds of cutting, of the reference's way through all ends, and how many times a list has. -/
import Derived.Test.YtnehllkklmdpfaaDoorTmMath
namespace Go.Proofs.YtnehllkklmdpfaaDoor
namespace T
/-- What is left of a span s under cuts: pieces, and the place from which on the cuts 'rest' still cut. -/
structure Left (s : SV) (cuts acc : List SV) (r : Int) (rest : List SV) : Prop where
  asc : Asc acc
  before : ∀ a ∈ acc, a.2 < r
  from_ : s.1 ≤ r
  at_ : ∀ t, (s.1 ≤ t ∧ t < s.2 ∧ ¬ In cuts t) ↔ In acc t ∨ (r ≤ t ∧ t < s.2 ∧ ¬ In rest t)
namespace Left
variable {s c : SV} {cuts acc rest : List SV} {r : Int}
theorem start (s : SV) (cuts : List SV) : Left s cuts [] s.1 cuts := ⟨Asc.nil, by simp, Int.le_refl _, fun t => ⟨Or.inr, fun h => h.elim (fun h => absurd h (in_nil t)) id⟩⟩
theorem skip (h : Left s cuts acc r (c :: rest)) (hc : c.2 ≤ r ∨ s.2 ≤ c.1) : Left s cuts acc r rest :=
  ⟨h.asc, h.before, h.from_, fun t => by
    rw [h.at_ t, in_cons]
    constructor
    · rintro (a | ⟨a, b, d⟩)
      · exact Or.inl a
      · exact Or.inr ⟨a, b, fun e => d (Or.inr e)⟩
    · rintro (a | ⟨a, b, d⟩)
      · exact Or.inl a
      · exact Or.inr ⟨a, b, fun e => e.elim (fun e => by omega) d⟩⟩
theorem cut (h : Left s cuts acc r (c :: rest)) (hA : Asc (c :: rest)) (h1 : r < c.1) (h2 : c.1 < s.2) : Left s cuts (acc ++ [(r, c.1)]) c.2 rest :=
  have h0 := hA.head
  ⟨h.asc.push h1 h.before, fun a ha => by
    rcases List.mem_append.1 ha with ha | ha
    · have := h.before a ha
      omega
    · rw [List.mem_singleton.1 ha]; exact h0, by have := h.from_; omega, fun t => by
    rw [h.at_ t, in_cons, in_append, in_one]
    constructor
    · rintro (a | ⟨a, b, d⟩)
      · exact Or.inl (Or.inl a)
      · by_cases ht : t < c.1
        · exact Or.inl (Or.inr ⟨a, ht⟩)
        · exact Or.inr ⟨Classical.byContradiction fun e => d (Or.inl ⟨by omega, by omega⟩), b, fun e => d (Or.inr e)⟩
    · rintro ((a | ⟨a, b⟩) | ⟨a, b, d⟩)
      · exact Or.inl a
      · simp only at a b
        exact Or.inr ⟨a, by omega, fun e => e.elim (fun e => by omega) (fun e => by have := hA.in_beyond e; omega)⟩
      · exact Or.inr ⟨by omega, b, fun e => e.elim (fun e => by omega) d⟩⟩
theorem drop (h : Left s cuts acc r (c :: rest)) (h1 : ¬ r < c.1) (h2 : r < c.2) : Left s cuts acc c.2 rest :=
  ⟨h.asc, fun a ha => by have := h.before a ha; omega, by have := h.from_; omega, fun t => by
    rw [h.at_ t, in_cons]
    constructor
    · rintro (a | ⟨a, b, d⟩)
      · exact Or.inl a
      · exact Or.inr ⟨Classical.byContradiction fun e => d (Or.inl ⟨by omega, by omega⟩), b, fun e => d (Or.inr e)⟩
    · rintro (a | ⟨a, b, d⟩)
      · exact Or.inl a
      · exact Or.inr ⟨by omega, b, fun e => e.elim (fun e => by omega) d⟩⟩
theorem last (h : Left s cuts acc r []) (hr : r < s.2) : Canon (fun t => s.1 ≤ t ∧ t < s.2 ∧ ¬ In cuts t) (acc ++ [(r, s.2)]) :=
  ⟨h.asc.push hr h.before, fun t => by
    rw [h.at_ t, in_append, in_one]
    exact ⟨fun k => k.elim Or.inl fun k => Or.inr ⟨k.1, k.2, in_nil t⟩, fun k => k.elim Or.inl fun k => Or.inr ⟨k.1, k.2.1⟩⟩⟩
theorem none_ (h : Left s cuts acc r []) (hr : ¬ r < s.2) : Canon (fun t => s.1 ≤ t ∧ t < s.2 ∧ ¬ In cuts t) acc :=
  ⟨h.asc, fun t => by
    rw [h.at_ t]
    exact ⟨Or.inl, fun k => k.elim id fun k => by omega⟩⟩
end Left
/-- The pieces of one span more. -/
theorem gather {pre post B acc ws : List SV} {s : SV} (hA : Asc (pre ++ s :: post)) (h : Canon (fun t => In pre t ∧ ¬ In B t) acc) (k : Canon (fun t => s.1 ≤ t ∧ t < s.2 ∧ ¬ In B t) ws) :
    Canon (fun t => In (pre ++ [s]) t ∧ ¬ In B t) (acc ++ ws) :=
  ⟨h.asc.append k.asc (fun a ha b hb => by
    have h1 := h.asc.some_ a ha
    have h2 := k.asc.some_ b hb
    obtain ⟨⟨p, hp, h3, h4⟩, _⟩ := (h.at_ (a.2 - 1)).1 ⟨a, ha, by omega, by omega⟩
    have h5 := ((k.at_ b.1).1 ⟨b, hb, by omega, h2⟩).1
    have h6 := hA.cross p hp s (by simp)
    omega), fun t => by
    rw [in_append, h.at_ t, k.at_ t, in_append, in_one]
    constructor
    · rintro (⟨a, b⟩ | ⟨a, b, d⟩)
      · exact ⟨Or.inl a, b⟩
      · exact ⟨Or.inr ⟨a, b⟩, d⟩
    · rintro ⟨a | ⟨a, b⟩, d⟩
      · exact Or.inl ⟨a, d⟩
      · exact Or.inr ⟨a, b, d⟩⟩
/-! ### The reference's way through all ends -/
def EndsOf (L : List Int) (l : List SV) : Prop := ∀ s ∈ l, s.1 ∈ L ∧ s.2 ∈ L
theorem alike {l : List SV} {L : List Int} (hm : EndsOf L l) {x y t : Int} (gap : ∀ z ∈ L, z ≤ x ∨ y ≤ z) (h1 : x ≤ t) (h2 : t < y) : In l t ↔ In l x := by
  constructor
  · rintro ⟨s, hs, h3, h4⟩
    refine ⟨s, hs, ?_, ?_⟩
    · rcases gap _ (hm s hs).1 with h | h <;> omega
    · rcases gap _ (hm s hs).2 with h | h <;> omega
  · rintro ⟨s, hs, h3, h4⟩
    refine ⟨s, hs, by omega, ?_⟩
    rcases gap _ (hm s hs).2 with h | h <;> omega
/-- What has been found of a without b ahead of the time x. -/
def Upto (a b : List SV) (x : Int) : List SV → Prop := Canon fun t => t < x ∧ In a t ∧ ¬ In b t
section
variable {a b acc : List SV} {L : List Int} {x y : Int}
theorem upto_skip (h : Upto a b x acc) (ha : EndsOf L a) (hb : EndsOf L b) (gap : ∀ z ∈ L, z ≤ x ∨ y ≤ z) (hxy : x < y) (hno : ¬ In a x ∨ In b x) : Upto a b y acc :=
  Canon.of h fun t => by
    constructor
    · rintro ⟨h1, h2⟩
      exact ⟨by omega, h2⟩
    · rintro ⟨h1, h2, h3⟩
      refine ⟨Classical.byContradiction fun h4 => ?_, h2, h3⟩
      have e1 := alike ha gap (t := t) (by omega) h1
      have e2 := alike hb gap (t := t) (by omega) h1
      rcases hno with hno | hno
      · exact hno (e1.1 h2)
      · exact h3 (e2.2 hno)
theorem upto_more (h : Canon (fun t => (t < x ∧ In a t ∧ ¬ In b t) ∨ (x ≤ t ∧ t < y)) acc) (ha : EndsOf L a) (hb : EndsOf L b) (gap : ∀ z ∈ L, z ≤ x ∨ y ≤ z) (hxy : x < y) (h1 : In a x) (h2 : ¬ In b x) : Upto a b y acc :=
  Canon.of h fun t => by
    constructor
    · rintro (⟨h3, h4⟩ | ⟨h3, h4⟩)
      · exact ⟨by omega, h4⟩
      · exact ⟨h4, (alike ha gap h3 h4).2 h1, fun e => h2 ((alike hb gap h3 h4).1 e)⟩
    · rintro ⟨h3, h4⟩
      by_cases h5 : t < x
      · exact Or.inl ⟨h5, h4⟩
      · exact Or.inr ⟨by omega, h3⟩
theorem upto_ends (h : Upto a b x acc) : ∀ s ∈ acc, s.2 ≤ x := fun s hs => by
  have h0 := h.asc.some_ s hs
  have := ((h.at_ (s.2 - 1)).1 ⟨s, hs, by omega, by omega⟩).1
  omega
theorem upto_push (h : Upto a b x acc) (ha : EndsOf L a) (hb : EndsOf L b) (gap : ∀ z ∈ L, z ≤ x ∨ y ≤ z) (hxy : x < y) (h1 : In a x) (h2 : ¬ In b x) (hl : ∀ s ∈ acc, s.2 ≠ x) : Upto a b y (acc ++ [(x, y)]) :=
  upto_more (push (s := (x, y)) h hxy (fun s hs => by have := upto_ends h s hs; have := hl s hs; simp only; omega)) ha hb gap hxy h1 h2
theorem upto_grow {init : List SV} {f : Int} (h : Upto a b x (init ++ [(f, x)])) (ha : EndsOf L a) (hb : EndsOf L b) (gap : ∀ z ∈ L, z ≤ x ∨ y ≤ z) (hxy : x < y) (h1 : In a x) (h2 : ¬ In b x) : Upto a b y (init ++ [(f, y)]) := by
  have h0 := h.asc.back.head
  have := merge (s := (x, y)) h (by simp only at *; omega) (Int.le_refl _)
  rw [show max x y = y by omega] at this
  exact upto_more this ha hb gap hxy h1 h2
theorem upto_start (ha : EndsOf L a) (hx : ∀ z ∈ L, x ≤ z) : Upto a b x [] :=
  ⟨Asc.nil, fun t => ⟨fun h => absurd h (in_nil t), fun ⟨h1, ⟨s, hs, h2, _⟩, _⟩ => by have := hx _ (ha s hs).1; omega⟩⟩
theorem upto_end (h : Upto a b x acc) (ha : EndsOf L a) (hx : ∀ z ∈ L, z ≤ x) : Canon (fun t => In a t ∧ ¬ In b t) acc :=
  Canon.of h fun t => ⟨fun k => k.2, fun k => ⟨by obtain ⟨s, hs, _, h2⟩ := k.1; have := hx _ (ha s hs).2; omega, k⟩⟩
theorem upto_none (ha : EndsOf [] a) : Canon (fun t => In a t ∧ ¬ In b t) [] :=
  ⟨Asc.nil, fun t => ⟨fun h => absurd h (in_nil t), fun ⟨⟨s, hs, _⟩, _⟩ => by have := (ha s hs).1; simp at this⟩⟩
end
/-- Numbers that ascend, each once. -/
def Up (L : List Int) : Prop := L.Pairwise (· < ·)
theorem up_ins {L : List Int} {k : Nat} {v : Int} (h : Up L) (h1 : ∀ j (hj : j < L.length), k ≤ j → v < L[j]) (h2 : ∀ j (hj : j < L.length), j < k → L[j] < v) : Up (L.take k ++ v :: L.drop k) := by
  refine List.pairwise_append.2 ⟨h.sublist (List.take_sublist _ _), List.pairwise_cons.2 ⟨fun x hx => ?_, h.sublist (List.drop_sublist _ _)⟩, fun x hx y hy => ?_⟩
  · obtain ⟨j, hj, rfl⟩ := List.mem_iff_getElem.1 hx
    rw [List.getElem_drop]
    exact h1 _ _ (by omega)
  · obtain ⟨j, hj, rfl⟩ := List.mem_iff_getElem.1 hx
    rw [List.length_take] at hj
    rw [List.getElem_take]
    have h3 := h2 j (by omega) (by omega)
    rcases List.mem_cons.1 hy with rfl | hy
    · exact h3
    · obtain ⟨i, hi, rfl⟩ := List.mem_iff_getElem.1 hy
      rw [List.getElem_drop]
      have := h1 (k + i) (by rw [List.length_drop] at hi; omega) (by omega)
      omega
theorem mem_ins {L : List Int} {k : Nat} {v x : Int} : x ∈ L.take k ++ v :: L.drop k ↔ x ∈ L ∨ x = v := by
  rw [List.mem_append, List.mem_cons]
  have : x ∈ L ↔ x ∈ L.take k ∨ x ∈ L.drop k := by
    rw [← List.mem_append, List.take_append_drop]
  rw [this]
  constructor
  · rintro (h | h | h)
    · exact Or.inl (Or.inl h)
    · exact Or.inr h
    · exact Or.inl (Or.inr h)
  · rintro ((h | h) | h)
    · exact Or.inl h
    · exact Or.inr (Or.inr h)
    · exact Or.inr (Or.inl h)
theorem up_lt {L : List Int} (h : Up L) {i j : Nat} (hij : i < j) (hj : j < L.length) : L[i]'(by omega) < L[j] := List.pairwise_iff_getElem.1 h i j _ _ hij
theorem up_gap {L : List Int} (h : Up L) {i : Nat} (hi : i + 1 < L.length) : ∀ z ∈ L, z ≤ L[i]'(by omega) ∨ L[i + 1] ≤ z := by
  intro z hz
  obtain ⟨j, hj, rfl⟩ := List.mem_iff_getElem.1 hz
  by_cases h1 : j < i
  · exact Or.inl (by have := up_lt h h1 (by omega); omega)
  · by_cases h2 : j = i
    · subst h2; exact Or.inl (by omega)
    · by_cases h3 : j = i + 1
      · subst h3; exact Or.inr (by omega)
      · exact Or.inr (by have := up_lt h (i := i + 1) (j := j) (by omega) hj; omega)
/-! ### How many times a list has -/
def sumL (l : List SV) : Int := (l.map fun s => s.2 - s.1).sum
theorem sumL_nil : sumL [] = 0 := rfl
theorem sumL_cons (s : SV) (l : List SV) : sumL (s :: l) = (s.2 - s.1) + sumL l := by simp [sumL]
theorem sumL_append (l m : List SV) : sumL (l ++ m) = sumL l + sumL m := by simp [sumL, List.sum_append]
theorem sumL_snoc (l : List SV) (s : SV) : sumL (l ++ [s]) = sumL l + (s.2 - s.1) := by rw [sumL_append, sumL_cons, sumL_nil]; omega
theorem sumL_le : ∀ {l : List SV} {x y : Int}, Asc l → (∀ s ∈ l, x ≤ s.1 ∧ s.2 ≤ y) → x ≤ y → 0 ≤ sumL l ∧ sumL l ≤ y - x
  | [], x, y, _, _, h => by rw [sumL_nil]; omega
  | a :: l, x, y, hA, h, hxy => by
    have h0 := hA.head
    have h1 := h a (by simp)
    have h2 := sumL_le (l := l) (x := a.2) (y := y) hA.tail (fun s hs => ⟨by have := hA.beyond s hs; omega, (h s (by simp [hs])).2⟩) h1.2
    rw [sumL_cons]
    omega
theorem sumL_good {l : List SV} (h : Asc l) (g : Good l) : 0 ≤ sumL l ∧ sumL l ≤ big := by
  have := sumL_le (x := 0) (y := big) h (fun s hs => ⟨(g s hs).1, (g s hs).2.2⟩) (by decide)
  omega
def inB (l : List SV) (t : Int) : Bool := l.any fun s => decide (s.1 ≤ t ∧ t < s.2)
theorem inB_iff {l : List SV} {t : Int} : inB l t = true ↔ In l t := by
  unfold inB In
  rw [List.any_eq_true]
  simp
theorem inB_eq {l m : List SV} {t : Int} (h : In l t ↔ In m t) : inB l t = inB m t := by
  rw [Bool.eq_iff_iff, inB_iff, inB_iff]; exact h
/-- How many numbers below N have a property. -/
def cnt (f : Int → Bool) : Nat → Nat
  | 0 => 0
  | n + 1 => cnt f n + if f n then 1 else 0
theorem cnt_span {a b : Int} (h0 : 0 ≤ a) (h1 : a ≤ b) : ∀ N : Nat, (cnt (fun t => decide (a ≤ t ∧ t < b)) N : Int) = min (N : Int) b - min (N : Int) a
  | 0 => by simp [cnt]; omega
  | n + 1 => by
    have := cnt_span h0 h1 n
    by_cases h : a ≤ (n : Int) ∧ (n : Int) < b
    · simp only [cnt, h, and_self, decide_true, if_true]
      omega
    · simp only [cnt, h, decide_false, Bool.false_eq_true, if_false]
      omega
theorem cnt_or {f g h : Int → Bool} (ho : ∀ t, h t = (f t || g t)) (hd : ∀ t, f t = true → g t = true → False) : ∀ N : Nat, cnt h N = cnt f N + cnt g N
  | 0 => rfl
  | n + 1 => by
    have e := cnt_or ho hd n
    have h1 := ho n
    have h2 := hd n
    simp only [cnt, e, h1]
    cases hf : f n <;> cases hg : g n <;> simp_all <;> omega
theorem cnt_false : ∀ N : Nat, cnt (fun _ => false) N = 0
  | 0 => rfl
  | n + 1 => by simp [cnt, cnt_false n]
theorem sum_cnt {N : Nat} : ∀ {l : List SV}, Asc l → (∀ s ∈ l, 0 ≤ s.1 ∧ s.2 ≤ N) → sumL l = cnt (inB l) N
  | [], _, _ => by rw [sumL_nil, show inB [] = fun _ => false from rfl, cnt_false]; rfl
  | a :: l, hA, h => by
    have h0 := hA.head
    have h1 := h a (by simp)
    have e := sum_cnt (N := N) hA.tail (fun s hs => h s (by simp [hs]))
    have k := cnt_or (f := fun t => decide (a.1 ≤ t ∧ t < a.2)) (g := inB l) (h := inB (a :: l)) (fun t => by simp [inB]) (fun t h2 h3 => by
      have h4 := hA.in_beyond (inB_iff.1 h3)
      have h5 := of_decide_eq_true h2
      omega) N
    have h6 := cnt_span h1.1 (by omega : a.1 ≤ a.2) N
    rw [sumL_cons, e, k]
    omega
/-- What is left and what is taken away are together as many. -/
theorem sum_split {S B : Int → Prop} {u m g : List SV} (hu : Canon S u) (hm : Canon (fun t => S t ∧ ¬ B t) m) (hg : Canon (fun t => S t ∧ ¬ In m t) g) (hS : ∀ t, S t → 0 ≤ t ∧ t < big) : sumL u = sumL m + sumL g := by
  obtain ⟨N, hN⟩ : ∃ N : Nat, (N : Int) = big := ⟨9223372036854775807, rfl⟩
  have gu := hu.good hS
  have gm := hm.good fun t h => hS t h.1
  have gg := hg.good fun t h => hS t h.1
  rw [sum_cnt (N := N) hu.asc (fun s hs => ⟨(gu s hs).1, by rw [hN]; exact (gu s hs).2.2⟩), sum_cnt (N := N) hm.asc (fun s hs => ⟨(gm s hs).1, by rw [hN]; exact (gm s hs).2.2⟩), sum_cnt (N := N) hg.asc (fun s hs => ⟨(gg s hs).1, by rw [hN]; exact (gg s hs).2.2⟩)]
  rw [cnt_or (f := inB m) (g := inB g) (h := inB u) (fun t => by
    rw [Bool.eq_iff_iff, Bool.or_eq_true, inB_iff, inB_iff, inB_iff, hu.at_ t, hg.at_ t, hm.at_ t]
    constructor
    · intro h
      by_cases hb : B t
      · exact Or.inr ⟨h, fun k => k.2 hb⟩
      · exact Or.inl ⟨h, hb⟩
    · rintro (h | h)
      · exact h.1
      · exact h.1) (fun t h1 h2 => ((hg.at_ t).1 (inB_iff.1 h2)).2 (inB_iff.1 h1))]
  omega
end T
end Go.Proofs.YtnehllkklmdpfaaDoor
