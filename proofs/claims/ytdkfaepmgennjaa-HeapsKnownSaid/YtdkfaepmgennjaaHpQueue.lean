/- A queue in memory: its block, its list, its map of places. -/
import Derived.Test.YtdkfaepmgennjaaHpLess
import Derived.Maps.OwnOps
import Derived.Maps.OwnSet
import Derived.Maps.Views
namespace Go.Proofs.Ytdkfaepmgennjaa
open Go.RowKit Go.Maps
open H (IT)
set_option linter.unusedSimpArgs false
namespace H
/-- No two values have the same handle. -/
def Uniq (l : List IT) : Prop := ∀ a b (ha : a < l.length) (hb : b < l.length), (l[a]).1 = (l[b]).1 → a = b
def sw (l : List IT) (i j : Nat) : List IT := match l[i]?, l[j]? with
  | some a, some b => (l.set i b).set j a
  | _, _ => l
theorem sw_eq {l : List IT} {i j : Nat} (hi : i < l.length) (hj : j < l.length) : sw l i j = (l.set i (l[j])).set j (l[i]) := by
  unfold sw
  rw [List.getElem?_eq_getElem hi, List.getElem?_eq_getElem hj]
theorem sw_len (l : List IT) (i j : Nat) : (sw l i j).length = l.length := by
  unfold sw
  split <;> simp
theorem sw_at {l : List IT} {i j k : Nat} (hi : i < l.length) (hj : j < l.length) (hk : k < (sw l i j).length) : (sw l i j)[k] = if j = k then l[i] else if i = k then l[j] else l[k]'(by rw [sw_len] at hk; exact hk) := by
  simp only [sw_eq hi hj, List.getElem_set]
theorem sw_mem {l : List IT} {i j : Nat} (hi : i < l.length) (hj : j < l.length) (x : IT) : x ∈ sw l i j ↔ x ∈ l := by
  constructor
  · intro h
    obtain ⟨k, hk, rfl⟩ := List.getElem_of_mem h
    rw [sw_at hi hj]
    split
    · exact List.getElem_mem _
    · split <;> exact List.getElem_mem _
  · intro h
    obtain ⟨k, hk, rfl⟩ := List.getElem_of_mem h
    have e : ∀ t (ht : t < l.length), l[t] = l[k] → (sw l i j)[if j = t then i else if i = t then j else t]? = some (l[k]) := by
      intro t ht e
      by_cases h1 : j = t
      · subst h1
        rw [if_pos rfl, List.getElem?_eq_getElem (by rw [sw_len]; exact hi), sw_at hi hj]
        by_cases h2 : j = i
        · rw [if_pos h2]; subst h2; rw [e]
        · rw [if_neg h2, if_pos rfl, e]
      · rw [if_neg h1]
        by_cases h2 : i = t
        · subst h2
          rw [if_pos rfl, List.getElem?_eq_getElem (by rw [sw_len]; exact hj), sw_at hi hj, if_pos rfl, e]
        · rw [if_neg h2, List.getElem?_eq_getElem (by rw [sw_len]; exact ht), sw_at hi hj, if_neg h1, if_neg h2, e]
    exact List.mem_of_getElem? (e k hk rfl)
theorem sw_uniq {l : List IT} {i j : Nat} (h : Uniq l) (hi : i < l.length) (hj : j < l.length) : Uniq (sw l i j) := by
  intro a b ha hb e
  rw [sw_at hi hj, sw_at hi hj] at e
  rw [sw_len] at ha hb
  split at e
  · split at e
    · omega
    · split at e
      · have := h _ _ hi hj e; omega
      · have := h _ _ hi hb e; omega
  · split at e
    · split at e
      · have := h _ _ hj hi e; omega
      · split at e
        · omega
        · have := h _ _ hj hb e; omega
    · split at e
      · have := h _ _ ha hi e; omega
      · split at e
        · have := h _ _ ha hj e; omega
        · exact h _ _ ha hb e
end H
theorem H.uniq_push {l : List IT} {x : IT} (h : Uniq l) (hx : ∀ y ∈ l, y.1 ≠ x.1) : Uniq (l ++ [x]) := by
  intro a b ha hb e
  simp only [List.length_append, List.length_cons, List.length_nil] at ha hb
  by_cases h1 : a < l.length
  · by_cases h2 : b < l.length
    · rw [List.getElem_append_left h1, List.getElem_append_left h2] at e
      exact h a b h1 h2 e
    · rw [List.getElem_append_left h1, List.getElem_append_right (by omega)] at e
      simp only [List.getElem_singleton] at e
      exact absurd e (hx _ (List.getElem_mem h1))
  · by_cases h2 : b < l.length
    · rw [List.getElem_append_left h2, List.getElem_append_right (by omega)] at e
      simp only [List.getElem_singleton] at e
      exact absurd e.symm (hx _ (List.getElem_mem h2))
    · omega
theorem H.uniq_pop {l : List IT} {x : IT} (h : Uniq (l ++ [x])) : Uniq l := by
  intro a b ha hb e
  exact h a b (by simp; omega) (by simp; omega) (by rw [List.getElem_append_left ha, List.getElem_append_left hb]; exact e)
/-- The map leads from each handle to its place, and from no other one. -/
structure MapS (D : DataW Unit) (l : List IT) : Prop where
  isMap : IsMap D
  at_ : ∀ k (hk : k < l.length) z, D.atKey (.int .i64 (l[k]).1) z = .lit (.int .i64 k)
  no : ∀ h, (∀ x ∈ l, x.1 ≠ h) → ∀ z, D.atKey (.int .i64 h) z = z
theorem keyI (h : Int) : WideAt.IsKeyLit (.int .i64 h) := trivial
theorem key_ne {a b : Int} (h : a ≠ b) : (Lit.int .i64 a) ≠ Lit.int .i64 b := fun e => h (by injection e)
theorem isMap_put {D : DataW Unit} (h : IsMap D) (k : Lit) (d : DataW Unit) : IsMap (D.put k d) := by
  obtain ⟨es, rfl⟩ := h
  exact ⟨_, rfl⟩
theorem isMap_del {D : DataW Unit} (h : IsMap D) (k : Lit) : IsMap (D.del k) := by
  obtain ⟨es, rfl⟩ := h
  exact ⟨_, rfl⟩
theorem MapS.nil_ : MapS (.map []) [] := ⟨isMap_empty, fun _ hk => absurd hk (Nat.not_lt_zero _), fun _ _ _ => rfl⟩
/-- Two values change places. -/
theorem MapS.sw {D : DataW Unit} {l : List IT} {i j : Nat} (h : MapS D l) (hu : H.Uniq l) (hi : i < l.length) (hj : j < l.length) :
    MapS ((D.put (.int .i64 (l[j]).1) (.lit (.int .i64 i))).put (.int .i64 (l[i]).1) (.lit (.int .i64 j))) (H.sw l i j) := by
  have m1 := isMap_put h.isMap (.int .i64 (l[j]).1) (.lit (.int .i64 i))
  refine ⟨isMap_put m1 _ _, fun k hk z => ?_, fun t ht z => ?_⟩
  · rw [H.sw_at hi hj]
    have hk' : k < l.length := by rw [H.sw_len] at hk; exact hk
    by_cases e1 : j = k
    · rw [if_pos e1, atKey_put_same m1 (keyI _), e1]
    · rw [if_neg e1]
      by_cases e2 : i = k
      · rw [if_pos e2, atKey_put_other (key_ne fun e => by have := hu _ _ hj hi e; omega), atKey_put_same h.isMap (keyI _), e2]
      · rw [if_neg e2, atKey_put_other (key_ne fun e => by have := hu _ _ hk' hi e; omega), atKey_put_other (key_ne fun e => by have := hu _ _ hk' hj e; omega)]
        exact h.at_ k hk' z
  · have hi' := ht (l[i]) ((H.sw_mem hi hj _).2 (List.getElem_mem hi))
    have hj' := ht (l[j]) ((H.sw_mem hi hj _).2 (List.getElem_mem hj))
    rw [atKey_put_other (key_ne fun e => hi' e.symm), atKey_put_other (key_ne fun e => hj' e.symm)]
    exact h.no t (fun x hx => ht x ((H.sw_mem hi hj x).2 hx)) z
/-- A value more at the end. -/
theorem MapS.push {D : DataW Unit} {l : List IT} {x : IT} (h : MapS D l) (hx : ∀ y ∈ l, y.1 ≠ x.1) : MapS (D.put (.int .i64 x.1) (.lit (.int .i64 l.length))) (l ++ [x]) := by
  refine ⟨isMap_put h.isMap _ _, fun k hk z => ?_, fun t ht z => ?_⟩
  · by_cases e : k < l.length
    · rw [List.getElem_append_left e, atKey_put_other (key_ne (hx _ (List.getElem_mem e)))]
      exact h.at_ k e z
    · have e2 : k = l.length := by simp only [List.length_append, List.length_cons, List.length_nil] at hk; omega
      subst e2
      rw [List.getElem_append_right (Nat.le_refl _)]
      simp only [Nat.sub_self, List.getElem_cons_zero]
      exact atKey_put_same h.isMap (keyI _) _ _
  · rw [atKey_put_other (key_ne fun e => ht x (by simp) e.symm)]
    exact h.no t (fun y hy => ht y (by simp [hy])) z
/-- The last value is taken away. -/
theorem MapS.pop {D : DataW Unit} {l : List IT} {x : IT} (h : MapS D (l ++ [x])) (hu : H.Uniq (l ++ [x])) : MapS (D.del (.int .i64 x.1)) l := by
  have hx : ∀ k (hk : k < l.length), (l[k]).1 ≠ x.1 := fun k hk e => by
    have h1 := hu k l.length (by simp; omega) (by simp) (by rw [List.getElem_append_left hk, List.getElem_append_right (Nat.le_refl _)]; simpa using e)
    omega
  refine ⟨isMap_del h.isMap _, fun k hk z => ?_, fun t ht z => ?_⟩
  · rw [atKey_del_other (key_ne (hx k hk))]
    have := h.at_ k (by simp; omega) z
    rwa [List.getElem_append_left hk] at this
  · by_cases e : x.1 = t
    · subst e; exact atKey_del_same z
    · rw [atKey_del_other (key_ne fun e2 => e e2.symm)]
      refine h.no t (fun y hy => ?_) z
      rcases List.mem_append.1 hy with hy | hy
      · exact ht y hy
      · rw [List.mem_singleton.1 hy]; exact e
theorem itCells_set : ∀ (l : List IT) (k : Nat) (a b : Int), ((itCells l).set (k * 2) (.int .i64 a)).set (k * 2 + 1) (.int .i64 b) = itCells (l.set k (a, b))
  | [], _, _, _ => rfl
  | x :: l, 0, a, b => rfl
  | x :: l, k + 1, a, b => by
    rw [List.set_cons_succ, itCells_cons, itCells_cons, ← itCells_set l k a b, show (k + 1) * 2 = k * 2 + 1 + 1 by omega]
    simp only [List.set_cons_succ]
theorem OwnIt.set_ {w : World} {gl cap m : Nat} {l : List IT} (h : OwnIt w (.slice (some ⟨gl, 0, none⟩) m cap) l) (k : Nat) (a b : Int) :
    OwnIt ((w.setCell ⟨gl, k * 2, none⟩ (.int .i64 a)).setCell ⟨gl, k * 2 + 1, none⟩ (.int .i64 b)) (.slice (some ⟨gl, 0, none⟩) m cap) (l.set k (a, b)) := by
  rcases h.2 with ⟨e0, _⟩ | ⟨g', cap', cur, e0, hb, hg, h1, h2, h3, h4⟩
  · cases e0
  · injection e0 with e1 e2 e3
    injection e1 with e1
    injection e1 with e1
    subst e1 e3
    have r1 := heap_setCell_same w gl (k * 2) _ _ (.int .i64 a) hg
    have r2 := heap_setCell_same _ gl (k * 2 + 1) _ _ (.int .i64 b) r1
    have hl : (l.set k (a, b)).length = l.length := by simp
    refine ⟨by rw [itCells_len], .inr ⟨gl, cap, _, ?_, hb, r2, by rw [hl]; exact h1, h2, by simpa using h3, ?_⟩⟩
    · rw [hl, e2]
    · rw [hl, Array.toList_setIfInBounds, Array.toList_setIfInBounds, List.take_set, List.take_set, h4, itCells_set]
theorem OwnIt.frozen {w : World} {gl cap m : Nat} {l : List IT} (h : OwnIt w (.slice (some ⟨gl, 0, none⟩) m cap) l) (k : Nat) : w.frozen? ⟨gl, k, none⟩ = false := by
  rcases h.2 with ⟨e0, _⟩ | ⟨g', cap', cur, e0, hb, hg, _⟩
  · cases e0
  · injection e0 with e1 e2 e3
    injection e1 with e1
    injection e1 with e1
    subst e1
    exact frozen_of_row _ _ _ _ _ hg
/-- What a call on a queue leaves as it was. -/
structure Kept (w w' : World) (g gm : Nat) (v : Value) : Prop where
  os : w'.os = w.os
  tape : w'.tape = w.tape
  output : w'.output = w.output
  size : w.heap.size ≤ w'.heap.size
  block : ∀ k, k < w.heap.size → k ≠ g → k ≠ gm → v.ownBlock ≠ some k → w'.heap[k]? = w.heap[k]?
theorem Kept.of_below {w w' : World} {g gm : Nat} {v : Value} (h : Below w.heap.size w w') : Kept w w' g gm v := ⟨h.os, h.tape, h.output, h.size, fun k hk _ _ _ => h.block k hk⟩
theorem Kept.drew {w w' : World} {g gm : Nat} {v : Value} (h : Kept w w' g gm v) : Kept w w'.drew g gm v := ⟨h.os, h.tape, h.output, h.size, h.block⟩
theorem Kept.trans {w w1 w2 : World} {g gm : Nat} {v v1 : Value} (h : Kept w w1 g gm v) (h1 : Kept w1 w2 g gm v1) (hv : v1.ownBlock = v.ownBlock ∨ ∀ k, v1.ownBlock = some k → w.heap.size ≤ k) : Kept w w2 g gm v :=
  ⟨h1.os.trans h.os, h1.tape.trans h.tape, h1.output.trans h.output, Nat.le_trans h.size h1.size, fun k hk a b c => by
    rw [h1.block k (Nat.lt_of_lt_of_le hk h.size) a b (fun e => by
      rcases hv with hv | hv
      · exact c (hv ▸ e)
      · exact absurd (hv k e) (by omega))]
    exact h.block k hk a b c⟩
theorem Kept.gm_ {w w' : World} {g gm : Nat} {v : Value} (h : w.grownBy w' (some gm)) : Kept w w' g gm v := ⟨h.os, h.tape, h.output, h.size, fun k hk _ h2 _ => h.block k hk (fun e => h2 (by injection e))⟩
theorem Kept.own_ {w w' : World} {g gm : Nat} {v : Value} (h : w.grownBy w' v.ownBlock) : Kept w w' g gm v := ⟨h.os, h.tape, h.output, h.size, fun k hk _ _ h3 => h.block k hk (fun e => h3 e.symm)⟩
theorem Kept.set_ (w : World) (g gm i : Nat) (v u : Value) : Kept w (w.setCell ⟨g, i, none⟩ u) g gm v := ⟨rfl, rfl, rfl, by simp, fun k _ h1 _ _ => heap_setCell_other _ _ _ _ h1⟩
theorem Kept.below {w w' : World} {g gm B : Nat} {v : Value} (h : Kept w w' g gm v) (hB : B ≤ w.heap.size) (hg : B ≤ g) (hm : B ≤ gm) (hv : ∀ k, v.ownBlock = some k → B ≤ k) : Below B w w' :=
  ⟨h.os, h.tape, h.output, h.size, fun k hk => h.block k (by omega) (by omega) (by omega) (fun e => by have := hv k e; omega)⟩
/-- A queue with the values l (as they lie in its heap). -/
structure QAt (w : World) (g gm n : Nat) (s : Value) (nx : Int) (v : Value) (N : Nat) (l : List IT) : Prop where
  row : w.heap[g]? = some (rowQ s nx (.func (.func n) #[] #[]) false v (.map (some gm)))
  own : OwnIt w v l
  map : ∃ D : DataW Unit, w.ownsMap Try.prog 2 (plainElem Try.prog 3) gm N D ∧ MapS D l
  ngm : g ≠ gm
  ng : v.ownBlock ≠ some g
  nm : v.ownBlock ≠ some gm
  uniq : H.Uniq l
  wf : ∀ x ∈ l, (Lit.int .i64 x.1).wf = true
theorem QAt.below {w w' : World} {g gm n N : Nat} {s v : Value} {nx : Int} {l : List IT} (h : QAt w g gm n s nx v N l) (hb : Below w.heap.size w w') : QAt w' g gm n s nx v N l := by
  obtain ⟨D, hD, hS⟩ := h.map
  exact ⟨(hb.block _ (Array.getElem?_eq_some_iff.1 h.row).1).trans h.row, h.own.below hb, ⟨D, hD.kept (row := none) ⟨hb.os, hb.tape, hb.output, hb.size, fun k hk _ => hb.block k hk⟩ (by simp), hS⟩, h.ngm, h.ng, h.nm, h.uniq, h.wf⟩
theorem lawK : Keyed Try.prog 2 := int_keyed Try.underlying2
end Go.Proofs.Ytdkfaepmgennjaa
