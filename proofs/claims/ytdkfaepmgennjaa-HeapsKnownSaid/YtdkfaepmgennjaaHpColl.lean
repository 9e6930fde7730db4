/- slices.AppendSeq, of what slices.Values yields of a slice of spans: they all, in memory of its own. -/
import Derived.Test.YtdkfaepmgennjaaHpIter
namespace Go.Proofs.Ytdkfaepmgennjaa
open Go.RowKit Go.Shelf
open T (SV)
attribute [local go_sem] Oper.semAt_some
set_option linter.unusedSimpArgs false
theorem setCell_block {Wd : World} {b i : Nat} {cs : Array Value} {t : TypeId} {fr : Nat × Nat} (v : Value) (h : Wd.heap[b]? = some (.cells cs t fr)) : (Wd.setCell ⟨b, i, none⟩ v).heap[b]? = some (.cells (cs.setIfInBounds i v) t fr) := by
  simp [World.setCell, Array.getElem?_modify, h]
theorem grown_setCell (Wd : World) (b i : Nat) (v : Value) : Wd.grownBy (Wd.setCell ⟨b, i, none⟩ v) (some b) := by
  refine ⟨rfl, rfl, rfl, by simp, fun k _ hk => ?_⟩
  exact Below.heap_setCell Wd ⟨b, i, none⟩ v k (fun e => hk (by rw [e]))
theorem grown_at {W1 W2 : World} {row : Option Nat} {k : Nat} {o : Obj} (hg : W1.grownBy W2 row) (h : W1.heap[k]? = some o) (hr : some k ≠ row) : W2.heap[k]? = some o :=
  (hg.block k (Array.getElem?_eq_some_iff.1 h).1 hr).trans h
theorem own_grown {W1 W2 : World} {row : Option Nat} {base : Nat} {e : TypeId} {size : Nat} {v : Value} {n : Nat} {xs : List Value} (h : W1.ownsRow base e size v n xs) (hg : W1.grownBy W2 row) (hr : ∀ r, row = some r → r < base) : W2.ownsRow base e size v n xs := by
  refine h.kept hg ?_
  cases hv : v.ownBlock with
  | none => exact Or.inl rfl
  | some g =>
    refine Or.inr (fun e2 => ?_)
    have h1 := (h.lt g hv).1
    have h2 := hr g e2.symm
    omega
theorem own_mono {W1 : World} {base base' : Nat} {e : TypeId} {size : Nat} {v : Value} {n : Nat} {xs : List Value} (h : W1.ownsRow base e size v n xs) (hb : base' ≤ base) : W1.ownsRow base' e size v n xs := by
  refine ⟨h.1, ?_⟩
  rcases h.2 with h | ⟨g, cap, cur, h1, h2, h3⟩
  · exact Or.inl h
  · exact Or.inr ⟨g, cap, cur, h1, Nat.le_trans hb h2, h3⟩
/-- Between two rounds: what has been collected. -/
def SI (N : Nat) (w : World) (pre : List SV) (Wd : World) : Prop :=
  ∃ v, Wd.heap[N]? = some (.cells #[v] 22 (0, 0)) ∧ OwnSp Wd (N + 4) v pre ∧ Below N w Wd
/-- At a round's beginning. -/
def SA (N c0 : Nat) (w : World) (m : Nat) (pre : List SV) (x : SV) (a : Act) (Wd : World) : Prop :=
  SI N w pre Wd ∧ pre.length ≤ m ∧ ∃ bx, N + 4 ≤ bx ∧ Wd.heap[bx]? = some (.cells #[.int .i64 x.1, .int .i64 x.2] 64 (0, 0)) ∧
    a = { tmps := #[.slice none 0 0, .func (.func 75) #[] #[.pointer (some ⟨c0, 0, none⟩)], .pointer (some ⟨N, 0, none⟩), undef, .slice none 0 0, .pointer (some ⟨bx, 0, none⟩), .func (.func 75) #[] #[.pointer (some ⟨c0, 0, none⟩)], .agg #[.int .i64 x.1, .int .i64 x.2], undef, undef, undef, undef, undef], defers := [] }
theorem SI.grown {N : Nat} {w : World} {pre : List SV} {W1 W2 : World} {row : Option Nat} (hN : N = w.heap.size) (h : SI N w pre W1) (hg : W1.grownBy W2 row) (hr : ∀ r, row = some r → N + 1 ≤ r ∧ r < N + 4) : SI N w pre W2 := by
  obtain ⟨v, h1, h2, h3⟩ := h
  exact ⟨v, grown_at hg h1 (fun e => by have := hr N e.symm; omega), own_grown h2 hg (fun r e => (hr r e).2), h3.grown hg (by have := h3.size; omega) (fun k e => by have := (hr k e).1; omega)⟩
theorem SA.grown {N c0 m : Nat} {w : World} {pre : List SV} {x : SV} {a : Act} {W1 W2 : World} {row : Option Nat} (hN : N = w.heap.size) (h : SA N c0 w m pre x a W1) (hg : W1.grownBy W2 row) (hr : ∀ r, row = some r → N + 1 ≤ r ∧ r < N + 4) : SA N c0 w m pre x a W2 := by
  obtain ⟨h1, h2, bx, h3, h4, h5⟩ := h
  exact ⟨h1.grown hN hg hr, h2, bx, h3, grown_at hg h4 (fun e => by have := hr bx e.symm; omega), h5⟩
set_option maxRecDepth 100000 in
set_option maxHeartbeats 4000000 in
theorem AppendSeq_any (A : Option Addr) (c m : Nat) (l : List SV) (c0 : Nat) (w : World) (hc : w.cell? ⟨c0, 0, none⟩ = some (.slice A m c)) (hm : l.length = m) (hl : SpIn w w.heap.size A c l) (hn : m ≤ 1000) :
    Calls Try.prog 76 #[.slice none 0 0, .func (.func 75) #[] #[.pointer (some ⟨c0, 0, none⟩)]] w (OwnPost l w) := by
  have hc0 : c0 < w.heap.size := World.block_lt_of_cell? w ⟨c0, 0, none⟩ hc
  refine (callsIn_wide (n := 3)).1 ?_
  refine callsIn_of_wp_marks Try.func76 rfl trivial ?_ rfl
  simp only [Try.ntmps76, List.size_toArray, List.length_cons, List.length_nil, Nat.reduceAdd, Nat.reduceSub, Array.replicate_succ, Array.replicate_zero, List.push_toArray, List.append_toArray, List.nil_append, List.cons_append]
  have HC := Lib.hid hc
  have HL := Lib.hid hl
  have Hm := Lib.hid hm
  clear hc hl hm
  gi_wp2_with fail
  obtain ⟨W1, hW1⟩ : ∃ W1, w.alloc (Obj.cells #[Value.slice none 0 0] 22) = W1 := ⟨_, rfl⟩
  have hsz1 : W1.heap.size = w.heap.size + 1 := by rw [← hW1]; simp
  have hB1 : Below w.heap.size w W1 := by rw [← hW1]; exact below_new _ _
  have hb0 : W1.heap[w.heap.size]? = some (.cells #[.slice none 0 0] 22 (0, 0)) := by rw [← hW1]; exact World.alloc_heap_new w _
  rw [hW1]
  have hc1 : W1.cell? ⟨c0, 0, none⟩ = some (.slice A m c) := (hB1.cell (p := ⟨c0, 0, none⟩) hc0).trans HC.out
  have hiter := values_iter 2 (by omega) A c m l c0 (W1.heap.size + 2) W1 hc1 (by omega) Hm.out ((HL.out.below hB1).more (by omega))
  have hA0 : ∀ ad, A = some ad → 0 < m → ad.block < w.heap.size := fun ad e h0 => (HL.out.cells ad e 0 (by rw [Hm.out]; exact h0)).1
  have hrow : ∀ {row : Option Nat}, (∀ r, row = some r → r = W1.heap.size ∨ r = W1.heap.size + 1 ∨ r = W1.heap.size + 2) → ∀ r, row = some r → w.heap.size + 1 ≤ r ∧ r < w.heap.size + 4 := fun h r e => by
    have := h r e
    omega
  have hkps : ∀ k, kpS c0 m A k → k < w.heap.size := by
    rintro k (rfl | ⟨h0, ad, e, rfl⟩)
    · exact hc0
    · exact hA0 ad e h0
  have Hkps := Lib.hid hkps
  refine wpIn_rangeFunc_cells rfl (by omega) rfl trivial (enters_of Try.func75 (by kernel_rfl) rfl) (fun _ => rfl)
    (fun k hk => Or.inl (by have := hkps k hk; omega)) hiter (SI w.heap.size w) (fun _ _ _ => False) (SA w.heap.size c0 w m)
    (fun pre X Y row h hg hr => h.grown rfl hg (hrow hr)) (fun _ _ _ _ _ h _ _ => h) (fun pre x a X Y row h hg hr => h.grown rfl hg (hrow hr))
    ⟨_, hb0, World.ownsRow_nil _ _ _ _, hB1⟩ ?assign ?body ?done ?stop
  case assign =>
    intro L pre x Wd K hI hlen hlt hK
    have hK' : ∀ a₁, SA w.heap.size c0 w m pre x a₁ (Wd.alloc (.cells #[.int .i64 x.1, .int .i64 x.2] 64)) → K a₁ (Wd.alloc (.cells #[.int .i64 x.1, .int .i64 x.2] 64)) := fun a₁ h =>
      hK a₁ _ (KeepsOthers.alloc _ _) (fun k hk => Below.heap_alloc _ _ k (by have := Hkps.out k hk; omega)) h
    have HK := Lib.hid hK'
    have hA : ∀ a₁, a₁ = _ → SA w.heap.size c0 w m pre x a₁ (Wd.alloc (.cells #[.int .i64 x.1, .int .i64 x.2] 64)) := fun a₁ e =>
      ⟨hI.grown rfl (World.grownBy_alloc _ _ none) (fun r e => by cases e), hlen, Wd.heap.size, by omega, World.alloc_heap_new _ _, e⟩
    have HA := Lib.hid hA
    clear hK hK' hA hI hiter hb0 hW1 hrow hc1 hkps
    dsimp only [encS]
    gi_wp2_with fail
    exact HK.out _ (HA.out _ rfl)
  case body =>
    rintro L pre x a Wd ⟨⟨v, hv, hown, hbel⟩, hlen, bx, hbx, hblk, rfl⟩ hlt
    clear hiter hb0 hW1 hrow hc1 hkps hB1 hA0
    obtain ⟨x, y⟩ := x
    have hx0 : Wd.cell? ⟨bx, 0, none⟩ = some (.int .i64 x) := by simp [World.cell?, hblk]
    have hx1 : Wd.cell? ⟨bx, 1, none⟩ = some (.int .i64 y) := by simp [World.cell?, hblk]
    have hv0 : Wd.cell? ⟨w.heap.size, 0, none⟩ = some v := by simp [World.cell?, hv]
    have hvf : Wd.frozen? ⟨w.heap.size, 0, none⟩ = false := by simp [World.frozen?, hv]
    have Hv := Lib.hid hv
    have Hblk := Lib.hid hblk
    clear hv hblk
    have hNs : w.heap.size + 4 ≤ Wd.heap.size := by omega
    obtain ⟨i0, hi, hz0, hz1, hz2⟩ := info_parts info_sp
    gi_wp2_with (first | (gi_at_builtin; refine wpListIn_append_own _ rfl _ _ 22 rfl (w.heap.size + 4) 64 i0 _ 2 16 Try.underlying22 hi hz0 hz1 hz2 rfl (by decide) _ _ _ rfl (World.ownsRow.alloc hown _) ⟨Wd.heap.size, 0, none⟩ 1 1 [.int .i64 x, .int .i64 y] rfl rfl ?c1 ?c2 ?c3 ?c4 ?c5 ?_))
    case c2 => exact ⟨rfl, rfl⟩
    case c3 => unfold maxLen; omega
    case c4 => omega
    case c5 => first | omega | (simp; omega)
    · intro v' W2 hown' hgrow _
      obtain ⟨g', cap', rfl⟩ := ownsRow_succ hown'
      have hrow2 : ∀ r, v.ownBlock = some r → w.heap.size + 4 ≤ r := fun r e => (hown.lt r e).1
      have hko : KeepsOthers Wd W2 := (KeepsOthers.alloc _ _).trans (KeepsOthers.of_grownBy hgrow (fun j o hj ho => by
        rcases hown.2 with ⟨rfl, _⟩ | ⟨g, cap, cur, rfl, _, hg, _⟩
        · cases hj
        · obtain rfl := Option.some.inj hj
          have h1 := (Below.heap_alloc Wd (.cells #[.int .i64 x, .int .i64 y] 64) g (Array.getElem?_eq_some_iff.1 hg).1).trans hg
          rw [h1] at ho
          obtain rfl := Option.some.inj ho
          rfl))
      have hv2 : W2.heap[w.heap.size]? = some (.cells #[v] 22 (0, 0)) := grown_at hgrow ((Below.heap_alloc _ _ _ (by omega)).trans Hv.out) (fun e => by have := hrow2 _ e.symm; omega)
      have hcv2 : W2.cell? ⟨w.heap.size, 0, none⟩ = some v := by simp [World.cell?, hv2]
      have hfv2 : W2.frozen? ⟨w.heap.size, 0, none⟩ = false := by simp [World.frozen?, hv2]
      have hkp : ∀ k, kpS c0 m A k → W2.heap[k]? = Wd.heap[k]? := fun k hk => by
        have hks := Hkps.out k hk
        exact (hgrow.block k (by simp; omega) (fun e => by have := hrow2 k e.symm; omega)).trans (Below.heap_alloc _ _ k (by omega))
      have hbel2 : Below w.heap.size w W2 := (hbel.alloc (by omega) _).grown hgrow (by simp; omega) (fun k e => by have := hrow2 k e; omega)
      have Hown := Lib.hid hown'
      have Hv2 := Lib.hid hv2
      have Hkp := Lib.hid hkp
      clear hown' hgrow hv2 hkp
      gi_wp2_with fail
      refine ⟨hko.trans (KeepsOthers.setCell _ _ _), fun k hk => ?_, _, setCell_block _ Hv2.out, ?_, ?_⟩
      · exact (Below.heap_setCell _ _ _ k (by show k ≠ w.heap.size; have := Hkps.out k hk; omega)).trans (Hkp.out k hk)
      · refine own_grown ?_ (grown_setCell W2 w.heap.size 0 _) (fun r e => by have := Option.some.inj e; omega)
        have h1 := Hown.out
        rw [List.length_append, show (spCells (pre ++ [(x, y)])) = spCells pre ++ [.int .i64 x, .int .i64 y] from by simp [spCells]]
        exact h1
      · exact hbel2.setCell (p := ⟨w.heap.size, 0, none⟩) (by show w.heap.size ≤ w.heap.size; omega) _
  case done =>
    rintro xs Wd rfl ⟨v, hv, hown, hbel⟩ hK
    clear hiter hb0 hW1 hrow hc1 hkps hB1 hA0
    have hNs : w.heap.size + 1 < Wd.heap.size := by have := (Array.getElem?_eq_some_iff.1 hK).1; omega
    have hv0 : Wd.cell? ⟨w.heap.size, 0, none⟩ = some v := by simp [World.cell?, hv]
    have Hown := Lib.hid hown
    have HK := Lib.hid hK
    have Hbel := Lib.hid hbel
    clear hown hK hv hbel
    gi_wp2_with fail
    have hKV := HK.out
    rw [hsz1] at hKV
    simp only [hsz1]
    refine ⟨by simp, .inl ⟨_, _, rfl, run_takeDeferred hKV, ?_⟩⟩
    refine ⟨v, ?_, v, rfl, own_mono (own_grown Hown.out (grownBy_putObj' Wd (w.heap.size + 1) (.deferred none)) (fun r e => by have := Option.some.inj e; omega)) (by omega), Hbel.out.grown (grownBy_putObj' _ _ _) Hbel.out.size (fun k e => by have := Option.some.inj e; omega)⟩
    simp [results, Try.f76, go_sem]
  case stop =>
    rintro c pre V _ hF
    exact hF.elim
end Go.Proofs.Ytdkfaepmgennjaa
