/- walked of a queue of 1 to 12 values. -/
import Derived.Test.YtdkfaepmgennjaaHpAll
import Derived.Test.YtdkfaepmgennjaaHpColl
import Derived.Maps.OwnIn
namespace Go.Proofs.Ytdkfaepmgennjaa
open Go.RowKit Go.Shelf
open T (SV)
open H (IT)
attribute [local go_sem] Oper.semAt_some
set_option linter.unusedSimpArgs false
/-- Between two rounds: what has been collected. -/
def WI (N : Nat) (w : World) (pre : List IT) (Wd : World) : Prop :=
  ∃ v, Wd.heap[N]? = some (.cells #[v] 22 (0, 0)) ∧ OwnSp Wd (N + 5) v pre ∧ Below N w Wd ∧ (pre = [] → v = .slice none 0 0)
/-- The blocks that a round leaves as they are. -/
def WF (N : Nat) (_ : List IT) (Wd : World) (k : Nat) : Prop := k ≠ N ∧ ∃ v, Wd.heap[N]? = some (.cells #[v] 22 (0, 0)) ∧ v.ownBlock ≠ some k
/-- At a round's beginning. -/
def WA (N : Nat) (q : Option Addr) (w : World) (m : Nat) (pre : List IT) (x : IT) (a : Act) (Wd : World) : Prop :=
  WI N w pre Wd ∧ pre.length ≤ m ∧
    a = { tmps := #[.pointer q, undef, .slice none 0 0, .pointer (some ⟨N, 0, none⟩), .int .i64 x.1, .int .i64 x.2, .pointer q, .func (.func 59) #[] #[.pointer (some ⟨N + 1, 0, none⟩)], .int .i64 x.1, .int .i64 x.2, undef, undef, undef, undef, undef, undef, undef, undef, undef, undef], defers := [] }
theorem WI.grown {N : Nat} {w : World} {pre : List IT} {W1 W2 : World} {row : Option Nat} (hN : N = w.heap.size) (h : WI N w pre W1) (hg : W1.grownBy W2 row) (hr : ∀ r, row = some r → N + 1 ≤ r ∧ r < N + 5) : WI N w pre W2 := by
  obtain ⟨v, h1, h2, h3, h4⟩ := h
  exact ⟨v, grown_at hg h1 (fun e => by have := hr N e.symm; omega), own_grown h2 hg (fun r e => (hr r e).2), h3.grown hg (by have := h3.size; omega) (fun k e => by have := (hr k e).1; omega), h4⟩
theorem WF.grown {N : Nat} {pre : List IT} {W1 W2 : World} {row : Option Nat} {k : Nat} (h : WF N pre W1 k) (hg : W1.grownBy W2 row) (hr : ∀ r, row = some r → N + 1 ≤ r ∧ r < N + 5) : WF N pre W2 k := by
  obtain ⟨h0, v, h1, h2⟩ := h
  exact ⟨h0, v, grown_at hg h1 (fun e => by have := hr N e.symm; omega), h2⟩
theorem WA.grown {N m : Nat} {q : Option Addr} {w : World} {pre : List IT} {x : IT} {a : Act} {W1 W2 : World} {row : Option Nat} (hN : N = w.heap.size) (h : WA N q w m pre x a W1) (hg : W1.grownBy W2 row) (hr : ∀ r, row = some r → N + 1 ≤ r ∧ r < N + 5) : WA N q w m pre x a W2 :=
  ⟨h.1.grown hN hg hr, h.2⟩
set_option maxRecDepth 100000 in
set_option maxHeartbeats 4000000 in
theorem walked_any (nf : Nat) (ord : Int → Int → Bool) (ho : OrdN nf ord) (g gm gl cap m N : Nat) (nx : Int) (l : List IT) (w : World) (hq : QAt w g gm nf (self g) nx (.slice (some ⟨gl, 0, none⟩) m cap) N l) (hm : l.length = m) (h0 : 0 < m) (h12 : m ≤ 12) :
    Calls Try.prog 19 #[.pointer (some ⟨g, 0, none⟩)] w fun e w' => ∃ v, e = .returned v ∧ OwnSp w' w.heap.size v (H.isort ord m l) ∧ Below w.heap.size w w' := by
  refine (callsIn_wide (n := 3)).1 ?_
  refine callsIn_of_wp_marks Try.func19 rfl trivial ?_ rfl
  simp only [Try.ntmps19, List.size_toArray, List.length_cons, List.length_nil, Nat.reduceAdd, Nat.reduceSub, Array.replicate_succ, Array.replicate_zero, List.push_toArray, List.append_toArray, List.nil_append, List.cons_append]
  gi_wp2_with (first | (refine ⟨trivial, ?_⟩; gi_at_call 34; refine (callsIn_wide.2 (All_any (some ⟨g, 0, none⟩) _)).mono ?_; rintro e w' ⟨rfl, rfl⟩))
  obtain ⟨W1, hW1⟩ : ∃ W1, (w.alloc (Obj.cells #[Value.slice none 0 0] 22)).alloc (Obj.cells #[Value.pointer (some ⟨g, 0, none⟩)] 27) = W1 := ⟨_, rfl⟩
  have hsz1 : W1.heap.size = w.heap.size + 2 := by rw [← hW1]; simp
  have hB1 : Below w.heap.size w W1 := by rw [← hW1]; exact bt (below_new w _) (by simp) (below_new _ _)
  have hb0 : W1.heap[w.heap.size]? = some (.cells #[.slice none 0 0] 22 (0, 0)) := by
    rw [← hW1, (below_new (w.alloc (Obj.cells #[Value.slice none 0 0] 22)) _).block _ (by simp)]
    exact heap_alloc_new w _
  have hc1 : W1.cell? ⟨w.heap.size + 1, 0, none⟩ = some (.pointer (some ⟨g, 0, none⟩)) := by
    have := heap_alloc_new (w.alloc (Obj.cells #[Value.slice none 0 0] 22)) (.cells #[.pointer (some ⟨g, 0, none⟩)] 27)
    rw [hW1, World.size_alloc] at this
    rw [cell_of_row _ _ _ _ _ _ this]; rfl
  rw [hW1]
  have hiter := all1_iter 2 (by omega) nf ord ho g gm gl cap m N nx l (w.heap.size + 1) (W1.heap.size + 2) W1 (hq.below hB1) hm h0 h12 hc1
  have hrow : ∀ {row : Option Nat}, (∀ r, row = some r → r = W1.heap.size ∨ r = W1.heap.size + 1 ∨ r = W1.heap.size + 2) → ∀ r, row = some r → w.heap.size + 1 ≤ r ∧ r < w.heap.size + 5 := fun h r e => by
    have := h r e
    omega
  refine wpIn_rangeFunc_free rfl (by omega) rfl trivial (enters_of Try.func59 (by kernel_rfl) rfl) (fun _ => rfl)
    hiter (WF w.heap.size) (WI w.heap.size w) (fun _ _ _ => False) (WA w.heap.size (some ⟨g, 0, none⟩) w m)
    (fun pre X Y row h hg hr => h.grown rfl hg (hrow hr)) (fun _ _ _ _ _ h _ _ => h) (fun pre x a X Y row h hg hr => h.grown rfl hg (hrow hr))
    ?fr0 (fun pre X Y row k h hg hr => h.grown hg (hrow hr)) ⟨_, hb0, World.ownsRow_nil _ _ _ _, hB1, fun _ => rfl⟩ ?assign ?body ?done ?stop
  case fr0 =>
    rintro Wd k ⟨v, h1, h2, h3, h4⟩ hk hlt
    exact ⟨by omega, v, h1, by rw [h4 rfl]; simp [Value.ownBlock]⟩
  case assign =>
    intro L pre x Wd K hI hlen hlt hK
    have HK := Lib.hid (fun a₁ h => hK a₁ Wd (KeepsOthers.refl Wd) (fun k hk _ => ⟨rfl, hk⟩) h)
    have HA := Lib.hid (fun a₁ e => (⟨hI, hlen, e⟩ : WA w.heap.size (some ⟨g, 0, none⟩) w m pre x a₁ Wd))
    clear hK hI hiter hb0 hW1 hrow hc1
    dsimp only [encI]
    gi_wp2_with fail
    exact HK.out _ (HA.out _ rfl)
  case body =>
    rintro L pre x a Wd ⟨⟨v, hv, hown, hbel, -⟩, hlen, rfl⟩ hlt
    have hN5 : w.heap.size + 5 ≤ Wd.heap.size := by omega
    clear hiter hb0 hW1 hrow hc1 hB1
    obtain ⟨x, y⟩ := x
    have hv0 : Wd.cell? ⟨w.heap.size, 0, none⟩ = some v := by simp [World.cell?, hv]
    have hvf : Wd.frozen? ⟨w.heap.size, 0, none⟩ = false := by simp [World.frozen?, hv]
    have Hv := Lib.hid hv
    clear hv
    obtain ⟨i0, hi, hz0, hz1, hz2⟩ := info_parts info_sp
    gi_wp2_with (first | (gi_at_builtin; refine wpListIn_append_own_at _ rfl _ _ 22 rfl (w.heap.size + 5) 64 i0 _ 2 16 Try.underlying22 hi hz0 hz1 hz2 rfl (by decide) _ _ _ rfl (World.ownsRow.alloc hown _) ⟨Wd.heap.size, 0, none⟩ 1 1 [.int .i64 x, .int .i64 y] rfl rfl ?c1 ?c2 ?c3 ?c4 ?c5 ?_))
    case c1 =>
      intro j u hj
      have hb := World.alloc_heap_new Wd (.cells #[.int .i64 x, .int .i64 y] 64)
      rcases j with _ | _ | j
      · simp only [List.getElem?_cons_zero, Option.some.injEq] at hj
        subst hj
        show World.cell? _ ⟨Wd.heap.size, 0, none⟩ = _
        rw [cell_of_row _ _ _ _ _ _ hb]
        rfl
      · simp only [List.getElem?_cons_succ, List.getElem?_cons_zero, Option.some.injEq] at hj
        subst hj
        show World.cell? _ ⟨Wd.heap.size, 1, none⟩ = _
        rw [cell_of_row _ _ _ _ _ _ hb]
        rfl
      · simp at hj
    case c2 =>
      intro u hu
      simp only [List.mem_cons, List.not_mem_nil, or_false] at hu
      rcases hu with rfl | rfl <;> rfl
    case c3 => unfold maxLen; omega
    case c4 => omega
    case c5 => first | omega | (simp; omega)
    · intro v' W2 hown' hgrow _ hat
      obtain ⟨g', cap', rfl⟩ := ownsRow_succ hown'
      have hrow2 : ∀ r, v.ownBlock = some r → w.heap.size + 5 ≤ r := fun r e => (hown.lt r e).1
      have hko : KeepsOthers Wd W2 := (KeepsOthers.alloc _ _).trans (KeepsOthers.of_grownBy hgrow (fun j o hj ho => by
        rcases hown.2 with ⟨rfl, _⟩ | ⟨g, cap, cur, rfl, _, hg, _⟩
        · cases hj
        · obtain rfl := Option.some.inj hj
          have h1 := (Below.heap_alloc Wd (.cells #[.int .i64 x, .int .i64 y] 64) g (Array.getElem?_eq_some_iff.1 hg).1).trans hg
          rw [h1] at ho
          obtain rfl := Option.some.inj ho
          rfl))
      have hv2 : W2.heap[w.heap.size]? = some (.cells #[v] 22 (0, 0)) := grown_at hgrow ((Below.heap_alloc _ _ _ (by omega)).trans Hv.out) (fun e => by have := hrow2 _ e.symm; omega)
      have hcv2 : W2.cell? ⟨w.heap.size, 0, none⟩ = some v := by simp [World.cell?, hv2]
      have hfv2 : W2.frozen? ⟨w.heap.size, 0, none⟩ = false := by simp [World.frozen?, hv2]
      have hkp : ∀ k, WF w.heap.size pre Wd k → k < Wd.heap.size → W2.heap[k]? = Wd.heap[k]? ∧ k ≠ w.heap.size ∧ k ≠ g' := fun k hk hlt' => by
        obtain ⟨hk0, v1, hv1, hne⟩ := hk
        have e1 : v1 = v := by
          have := hv1.symm.trans Hv.out
          simpa using this
        subst e1
        refine ⟨(hgrow.block k (by simp; omega) hne.symm).trans (Below.heap_alloc _ _ k (by omega)), hk0, fun e => ?_⟩
        rcases hat with h | h
        · exact hne (by rw [← h, e]; rfl)
        · have h2 := Option.some.inj (show some g' = some (Wd.heap.size + 1) from h)
          omega
      have hbel2 : Below w.heap.size w W2 := (hbel.alloc (by omega) _).grown hgrow (by simp; omega) (fun k e => by have := hrow2 k e; omega)
      have Hown := Lib.hid hown'
      have Hv2 := Lib.hid hv2
      have Hkp := Lib.hid hkp
      clear hown' hgrow hv2 hkp hat
      gi_wp2_with fail
      have hg3 := grown_setCell W2 w.heap.size 0 (.slice (some ⟨g', 0, none⟩) (pre.length + 1) cap')
      refine ⟨hko.trans (KeepsOthers.setCell _ _ _), fun k hk hlt' => ?_, _, setCell_block _ Hv2.out, ?_, ?_, fun e => by simp at e⟩
      · obtain ⟨h1, h2, h3⟩ := Hkp.out k hk hlt'
        exact ⟨(Below.heap_setCell _ _ _ k (by show k ≠ w.heap.size; exact h2)).trans h1, h2, _, setCell_block _ Hv2.out, fun e => h3 (Option.some.inj (show some g' = some k from e)).symm⟩
      · refine own_grown ?_ hg3 (fun r e => by have := Option.some.inj e; omega)
        have h1 := Hown.out
        rw [List.length_append, show (spCells (pre ++ [(x, y)])) = spCells pre ++ [.int .i64 x, .int .i64 y] from by simp [spCells]]
        exact h1
      · exact hbel2.setCell (p := ⟨w.heap.size, 0, none⟩) (by show w.heap.size ≤ w.heap.size; omega) _
  case done =>
    rintro xs Wd rfl ⟨v, hv, hown, hbel, -⟩ hK
    have hv0 : Wd.cell? ⟨w.heap.size, 0, none⟩ = some v := by simp [World.cell?, hv]
    have Hown := Lib.hid hown
    have HK := Lib.hid hK
    have Hbel := Lib.hid hbel
    clear hown hK hv hbel hiter hb0 hW1 hrow hc1 hB1
    gi_wp2_with fail
    refine ⟨by simp, .inl ⟨_, _, rfl, run_takeDeferred HK.out, ?_⟩⟩
    refine ⟨v, ?_, v, rfl, own_mono (own_grown Hown.out (grownBy_putObj' Wd W1.heap.size (.deferred none)) (fun r e => by have := Option.some.inj e; omega)) (by omega), Hbel.out.grown (grownBy_putObj' _ _ _) Hbel.out.size (fun k e => by have := Option.some.inj e; omega)⟩
    simp [results, Try.f19, go_sem]
  case stop =>
    rintro c pre V _ hF
    exact hF.elim
end Go.Proofs.Ytdkfaepmgennjaa
