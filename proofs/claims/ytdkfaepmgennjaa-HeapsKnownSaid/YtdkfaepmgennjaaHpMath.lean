/- A heap stays a heap: what up and down leave; the root comes first. -/
import Derived.Test.YtdkfaepmgennjaaHpRem
namespace Go.Proofs.Ytdkfaepmgennjaa
open H (IT)
namespace H
/-- A strict weak order. -/
structure Swo (ord : Int → Int → Bool) : Prop where
  asymm : ∀ a b, ord a b = true → ord b a = false
  neg : ∀ a b c, ord a c = true → ord a b = true ∨ ord b c = true
theorem lt_iff {ord : Int → Int → Bool} (ho : Swo ord) (x y : IT) : lt ord x y = true ↔ ord x.2 y.2 = true ∨ (ord y.2 x.2 = false ∧ x.1 < y.1) := by
  unfold lt cmpV cmpI
  rw [decide_eq_true_iff]
  cases h1 : ord x.2 y.2 <;> cases h2 : ord y.2 x.2
  · simp
    by_cases h3 : x.1 < y.1
    · simp [h3]
    · simp [h3]
      split <;> omega
  · simp
  · simp
  · have := ho.asymm _ _ h1
    rw [h2] at this
    cases this
/-- x does not come behind y. -/
def Le (ord : Int → Int → Bool) (x y : IT) : Prop := lt ord y x = false
theorem Le.refl {ord : Int → Int → Bool} (ho : Swo ord) (x : IT) : Le ord x x := by
  unfold Le
  cases h : lt ord x x
  · rfl
  · rcases (lt_iff ho x x).1 h with h | ⟨_, h⟩
    · have := ho.asymm _ _ h; rw [h] at this; cases this
    · omega
theorem Le.trans {ord : Int → Int → Bool} (ho : Swo ord) {x y z : IT} (h1 : Le ord x y) (h2 : Le ord y z) : Le ord x z := by
  unfold Le at *
  cases h : lt ord z x
  · rfl
  · exfalso
    have n1 : ¬ (ord y.2 x.2 = true ∨ (ord x.2 y.2 = false ∧ y.1 < x.1)) := fun e => by rw [(lt_iff ho y x).2 e] at h1; cases h1
    have n2 : ¬ (ord z.2 y.2 = true ∨ (ord y.2 z.2 = false ∧ z.1 < y.1)) := fun e => by rw [(lt_iff ho z y).2 e] at h2; cases h2
    rcases (lt_iff ho z x).1 h with h | ⟨h, h3⟩
    · rcases ho.neg _ y.2 _ h with h4 | h4
      · exact n2 (.inl h4)
      · exact n1 (.inl h4)
    · have a1 : ord y.2 x.2 = false := by cases e : ord y.2 x.2 <;> simp_all
      have a2 : ord z.2 y.2 = false := by cases e : ord z.2 y.2 <;> simp_all
      have a3 : ord x.2 y.2 = false := by
        cases e : ord x.2 y.2
        · rfl
        · rcases ho.neg _ z.2 _ e with h4 | h4
          · rw [h] at h4; cases h4
          · rw [a2] at h4; cases h4
      have a4 : ord y.2 z.2 = false := by
        cases e : ord y.2 z.2
        · rfl
        · rcases ho.neg _ x.2 _ e with h4 | h4
          · rw [a1] at h4; cases h4
          · rw [h] at h4; cases h4
      have b1 : ¬ y.1 < x.1 := fun e => n1 (.inr ⟨a3, e⟩)
      have b2 : ¬ z.1 < y.1 := fun e => n2 (.inr ⟨a4, e⟩)
      omega
theorem Le.of_lt {ord : Int → Int → Bool} (ho : Swo ord) {x y : IT} (h : lt ord x y = true) : Le ord x y := by
  unfold Le
  cases e : lt ord y x
  · rfl
  · exfalso
    rcases (lt_iff ho x y).1 h with h | ⟨h, h3⟩ <;> rcases (lt_iff ho y x).1 e with h' | ⟨h', h3'⟩
    · have := ho.asymm _ _ h; rw [h'] at this; cases this
    · rw [h] at h'; cases h'
    · rw [h] at h'; cases h'
    · omega
/-- The first n values are a heap. -/
def Heap (ord : Int → Int → Bool) (l : List IT) (n : Nat) : Prop := ∀ i, 0 < i → i < n → Le ord (at_ l ((i - 1) / 2)) (at_ l i)
theorem at_sw {l : List IT} {i j k : Nat} (hi : i < l.length) (hj : j < l.length) (hk : k < l.length) : at_ (sw l i j) k = if j = k then at_ l i else if i = k then at_ l j else at_ l k := by
  rw [at_eq (by rw [sw_len]; exact hk), at_eq hi, at_eq hj, at_eq hk]
  exact sw_at hi hj (by rw [sw_len]; exact hk)
/-- The root comes first. -/
theorem Heap.root {ord : Int → Int → Bool} (ho : Swo ord) {l : List IT} {n : Nat} (h : Heap ord l n) : ∀ k, k < n → Le ord (at_ l 0) (at_ l k) := by
  intro k
  induction k using Nat.strongRecOn with
  | ind k ih =>
    intro hk
    rcases Nat.eq_zero_or_pos k with rfl | h0
    · exact Le.refl ho _
    · exact (ih ((k - 1) / 2) (by omega) (by omega)).trans ho (h k h0 hk)
theorem up_heap {ord : Int → Int → Bool} (ho : Swo ord) (n : Nat) : ∀ (f : Nat) (l : List IT) (j : Nat), j ≤ f → j < n → n ≤ l.length →
    (∀ i, 0 < i → i < n → i ≠ j → Le ord (at_ l ((i - 1) / 2)) (at_ l i)) → (∀ i, 0 < i → i < n → (i - 1) / 2 = j → 0 < j → Le ord (at_ l ((j - 1) / 2)) (at_ l i)) → Heap ord (up ord f l j) n
  | 0, l, j, hf, hj, hn, h1, h2 => fun i hi hin => h1 i hi hin (by omega)
  | f + 1, l, j, hf, hj, hn, h1, h2 => by
    unfold up
    by_cases h0 : j = 0
    · rw [if_pos h0]
      exact fun i hi hin => h1 i hi hin (by omega)
    · rw [if_neg h0]
      by_cases hlt : lt ord (at_ l j) (at_ l ((j - 1) / 2)) = true
      · rw [if_pos hlt]
        have hp : (j - 1) / 2 < l.length := by omega
        have hjl : j < l.length := by omega
        refine up_heap ho n f _ _ (by omega) (by omega) (by rw [sw_len]; exact hn) (fun i hi hin hne => ?_) (fun i hi hin hpi h0' => ?_)
        · rw [at_sw hp hjl (by omega), at_sw hp hjl (by omega)]
          by_cases e1 : j = i
          · subst e1
            rw [if_neg (show ¬ j = (j - 1) / 2 by omega), if_pos rfl, if_pos rfl]
            exact Le.of_lt ho hlt
          · have g1 : ¬ (j - 1) / 2 = i := fun e => hne e.symm
            by_cases e2 : j = (i - 1) / 2
            · rw [if_pos e2, if_neg e1, if_neg g1]
              exact h2 i hi hin e2.symm (by omega)
            · rw [if_neg e2, if_neg e1, if_neg g1]
              by_cases e3 : (j - 1) / 2 = (i - 1) / 2
              · rw [if_pos e3]
                have := h1 i hi hin (fun e => e1 e.symm)
                rw [← e3] at this
                exact (Le.of_lt ho hlt).trans ho this
              · rw [if_neg e3]
                exact h1 i hi hin (fun e => e1 e.symm)
        · have k1 : ¬ j = ((j - 1) / 2 - 1) / 2 := by omega
          have k2 : ¬ (j - 1) / 2 = ((j - 1) / 2 - 1) / 2 := by omega
          have k3 : ¬ (j - 1) / 2 = i := by omega
          rw [at_sw hp hjl (by omega), at_sw hp hjl (by omega), if_neg k1, if_neg k2]
          have hgp := h1 ((j - 1) / 2) h0' (by omega) (by omega)
          by_cases e1 : j = i
          · rw [if_pos e1]
            exact hgp
          · rw [if_neg e1, if_neg k3]
            have := h1 i hi hin (fun e => e1 e.symm)
            rw [hpi] at this
            exact hgp.trans ho this
      · rw [if_neg hlt]
        intro i hi hin
        by_cases e : i = j
        · subst e
          unfold Le
          cases e2 : lt ord (at_ l i) (at_ l ((i - 1) / 2))
          · rfl
          · exact absurd e2 hlt
        · exact h1 i hi hin e
theorem up_mem (ord : Int → Int → Bool) : ∀ (f : Nat) (l : List IT) (j : Nat), j < l.length → ∀ x, x ∈ up ord f l j ↔ x ∈ l
  | 0, _, _, _, _ => Iff.rfl
  | f + 1, l, j, hj, x => by
    unfold up
    split
    · exact Iff.rfl
    · split
      · rw [up_mem ord f _ _ (by rw [sw_len]; omega), sw_mem (by omega) hj]
      · exact Iff.rfl
theorem kid_or (ord : Int → Int → Bool) (l : List IT) (i n : Nat) (h : ¬ n ≤ 2 * i + 1) : (kid ord l i n = 2 * i + 1 ∨ kid ord l i n = 2 * i + 2) ∧ kid ord l i n < n := by
  unfold kid
  split
  · rename_i e; exact ⟨.inr rfl, e.1⟩
  · exact ⟨.inl rfl, by omega⟩
theorem down_mem (ord : Int → Int → Bool) : ∀ (f : Nat) (l : List IT) (i n : Nat), n ≤ l.length → ∀ x, x ∈ (down ord f l i n).1 ↔ x ∈ l
  | 0, _, _, _, _, _ => Iff.rfl
  | f + 1, l, i, n, hn, x => by
    unfold down
    split
    · exact Iff.rfl
    · rename_i h
      have hk := kid_or ord l i n h
      split
      · rw [down_mem ord f _ _ _ (by rw [sw_len]; exact hn), sw_mem (by omega) (by omega)]
      · exact Iff.rfl
theorem down_uniq (ord : Int → Int → Bool) : ∀ (f : Nat) (l : List IT) (i n : Nat), n ≤ l.length → Uniq l → Uniq (down ord f l i n).1
  | 0, _, _, _, _, h => h
  | f + 1, l, i, n, hn, hu => by
    unfold down
    split
    · exact hu
    · rename_i h
      have hk := kid_or ord l i n h
      split
      · exact down_uniq ord f _ _ _ (by rw [sw_len]; exact hn) (sw_uniq hu (by omega) (by omega))
      · exact hu
theorem down_keep (ord : Int → Int → Bool) : ∀ (f : Nat) (l : List IT) (i n k : Nat), n ≤ k → k < l.length → at_ (down ord f l i n).1 k = at_ l k
  | 0, _, _, _, _, _, _ => rfl
  | f + 1, l, i, n, k, hk, hl => by
    unfold down
    split
    · rfl
    · rename_i h
      have hd := kid_or ord l i n h
      split
      · rw [down_keep ord f _ _ _ k hk (by rw [sw_len]; exact hl), at_sw (by omega) (by omega) hl, if_neg (by omega), if_neg (by omega)]
      · rfl
theorem kid_le {ord : Int → Int → Bool} (ho : Swo ord) (l : List IT) (i n c : Nat) (hc : 0 < c) (hn : c < n) (hp : (c - 1) / 2 = i) : Le ord (at_ l (kid ord l i n)) (at_ l c) := by
  unfold kid
  have h2 : c = 2 * i + 1 ∨ c = 2 * i + 2 := by omega
  by_cases h : 2 * i + 2 < n ∧ lt ord (at_ l (2 * i + 2)) (at_ l (2 * i + 1)) = true
  · rw [if_pos h]
    rcases h2 with rfl | rfl
    · exact Le.of_lt ho h.2
    · exact Le.refl ho _
  · rw [if_neg h]
    rcases h2 with rfl | rfl
    · exact Le.refl ho _
    · unfold Le
      cases e : lt ord (at_ l (2 * i + 2)) (at_ l (2 * i + 1))
      · rfl
      · exact absurd ⟨hn, e⟩ h
theorem down_heap {ord : Int → Int → Bool} (ho : Swo ord) (n : Nat) : ∀ (f : Nat) (l : List IT) (i : Nat), n ≤ f + i → n ≤ l.length →
    (∀ c, 0 < c → c < n → (c - 1) / 2 ≠ i → Le ord (at_ l ((c - 1) / 2)) (at_ l c)) → (∀ c, 0 < c → c < n → (c - 1) / 2 = i → 0 < i → Le ord (at_ l ((i - 1) / 2)) (at_ l c)) → Heap ord (down ord f l i n).1 n
  | 0, l, i, hf, hn, h1, h2 => fun c hc hcn => h1 c hc hcn (by omega)
  | f + 1, l, i, hf, hn, h1, h2 => by
    unfold down
    by_cases h : n ≤ 2 * i + 1
    · rw [if_pos h]
      exact fun c hc hcn => h1 c hc hcn (by omega)
    · rw [if_neg h]
      have hk := kid_or ord l i n h
      have hle := fun c hc hcn hp => kid_le ho l i n c hc hcn hp
      generalize kid ord l i n = j at hk hle ⊢
      have hij : i ≠ j := by omega
      have hil : i < l.length := by omega
      have hjl : j < l.length := by omega
      have hpj : (j - 1) / 2 = i := by omega
      by_cases hlt : lt ord (at_ l j) (at_ l i) = true
      · rw [if_pos hlt]
        refine down_heap ho n f _ _ (by omega) (by rw [sw_len]; exact hn) (fun c hc hcn hne => ?_) (fun c hc hcn hpc _ => ?_)
        · have q1 : ¬ j = (c - 1) / 2 := fun e => hne e.symm
          rw [at_sw hil hjl (by omega), at_sw hil hjl (by omega), if_neg q1]
          by_cases e1 : j = c
          · have q2 : i = (c - 1) / 2 := by omega
            rw [if_pos q2, if_pos e1]
            exact Le.of_lt ho hlt
          · rw [if_neg e1]
            by_cases e2 : i = (c - 1) / 2
            · have q3 : ¬ i = c := by omega
              rw [if_pos e2, if_neg q3]
              exact hle c hc hcn e2.symm
            · rw [if_neg e2]
              by_cases e3 : i = c
              · subst e3
                rw [if_pos rfl]
                exact h2 j (by omega) hk.2 hpj hc
              · rw [if_neg e3]
                exact h1 c hc hcn (fun e => e2 e.symm)
        · have q1 : ¬ j = (j - 1) / 2 := by omega
          have q2 : i = (j - 1) / 2 := hpj.symm
          have q3 : ¬ j = c := by omega
          have q4 : ¬ i = c := by omega
          rw [at_sw hil hjl (by omega), at_sw hil hjl (by omega), if_neg q1, if_pos q2, if_neg q3, if_neg q4]
          have := h1 c hc hcn (by omega)
          rwa [hpc] at this
      · rw [if_neg hlt]
        intro c hc hcn
        by_cases e : (c - 1) / 2 = i
        · rw [e]
          have hs : Le ord (at_ l i) (at_ l j) := by
            unfold Le
            cases e2 : lt ord (at_ l j) (at_ l i)
            · rfl
            · exact absurd e2 hlt
          exact hs.trans ho (hle c hc hcn e)
        · exact h1 c hc hcn e
theorem at_left {l : List IT} {x : IT} {k : Nat} (h : k < l.length) : at_ (l ++ [x]) k = at_ l k := by
  rw [at_eq (by simp; omega), at_eq h, List.getElem_append_left h]
theorem hpush_heap {ord : Int → Int → Bool} (ho : Swo ord) {l : List IT} (h : Heap ord l l.length) (x : IT) : Heap ord (hpush ord l x) (l.length + 1) := by
  refine up_heap ho _ _ _ _ (Nat.le_refl _) (by omega) (by simp) (fun i hi hin hne => ?_) (fun i hi hin hpi h0 => by omega)
  rw [at_left (by omega), at_left (by omega)]
  exact h i hi (by omega)
theorem hpush_mem (ord : Int → Int → Bool) (l : List IT) (x y : IT) : y ∈ hpush ord l x ↔ y ∈ l ∨ y = x := by
  unfold hpush
  rw [up_mem ord _ _ _ (by simp), List.mem_append, List.mem_singleton]
theorem mend_zero (ord : Int → Int → Bool) (l : List IT) (n : Nat) : mend ord l 0 n = (down ord n l 0 n).1 := by
  unfold mend
  split
  · rfl
  · rw [up_zero]
theorem hrem_spec {ord : Int → Int → Bool} (ho : Swo ord) {L : List IT} {m : Nat} (hm : L.length = m + 1) (hh : Heap ord L (m + 1)) (hu : Uniq L) :
    (hrem ord L 0).length = m ∧ Heap ord (hrem ord L 0) m ∧ (∀ x ∈ hrem ord L 0, x ∈ L ∧ x.1 ≠ (at_ L 0).1) ∧ at_ (pre ord L 0) m = at_ L 0 ∧ at_ L 0 ∈ L ∧ ∀ x ∈ L, Le ord (at_ L 0) x := by
  have hP : (∀ x, x ∈ pre ord L 0 ↔ x ∈ L) ∧ Uniq (pre ord L 0) ∧ at_ (pre ord L 0) m = at_ L 0 ∧ Heap ord (pre ord L 0) m := by
    unfold pre
    rw [hm, Nat.add_sub_cancel]
    by_cases h0 : 0 = m
    · rw [if_pos h0]
      subst h0
      exact ⟨fun _ => Iff.rfl, hu, rfl, fun i _ hi => by omega⟩
    · rw [if_neg h0, mend_zero]
      have s0 : 0 < L.length := by omega
      have s1 : m < L.length := by omega
      have sl : (sw L 0 m).length = m + 1 := by rw [sw_len]; exact hm
      refine ⟨fun x => by rw [down_mem ord _ _ _ _ (by omega), sw_mem s0 s1], down_uniq ord _ _ _ _ (by omega) (sw_uniq hu s0 s1), ?_, ?_⟩
      · rw [down_keep ord _ _ _ _ m (Nat.le_refl _) (by omega), at_sw s0 s1 s1, if_pos rfl]
      · refine down_heap ho m m _ 0 (by omega) (by omega) (fun c hc hcn hne => ?_) (fun c _ _ _ h => absurd h (Nat.lt_irrefl _))
        have q1 : ¬ m = (c - 1) / 2 := by omega
        have q2 : ¬ 0 = (c - 1) / 2 := fun e => hne e.symm
        have q3 : ¬ m = c := by omega
        have q4 : ¬ 0 = c := by omega
        rw [at_sw s0 s1 (by omega), at_sw s0 s1 (by omega), if_neg q1, if_neg q2, if_neg q3, if_neg q4]
        exact hh c hc (by omega)
  obtain ⟨P0, p, q, e1, e2, e3, e4⟩ := last_of (show (pre ord L 0).length = m + 1 by rw [pre_len]; exact hm)
  unfold hrem
  rw [e3]
  rw [e1] at hP
  refine ⟨e2, fun i hi hin => ?_, fun x hx => ⟨(hP.1 x).1 (by simp [hx]), fun e => ?_⟩, by rw [e1]; exact hP.2.2.1, by rw [at_eq (by omega)]; exact List.getElem_mem _, fun x hx => ?_⟩
  · have := hP.2.2.2 i hi hin
    rwa [at_left (by omega), at_left (by omega)] at this
  · obtain ⟨k, hk, rfl⟩ := List.getElem_of_mem hx
    have h5 := hP.2.2.1
    rw [at_eq (by simp; omega), List.getElem_append_right (by omega)] at h5
    simp only [e2, Nat.sub_self, List.getElem_singleton] at h5
    have := hP.2.1 k P0.length (by simp; omega) (by simp) (by
      rw [List.getElem_append_left hk, List.getElem_append_right (Nat.le_refl _)]
      simp only [Nat.sub_self, List.getElem_singleton]
      rw [e, ← h5])
    omega
  · obtain ⟨k, hk, rfl⟩ := List.getElem_of_mem hx
    rw [← at_eq hk]
    exact hh.root ho k (by omega)
end H
end Go.Proofs.Ytdkfaepmgennjaa
