/- A law for a range over a function whose iterator writes a block of its own between two rounds. Of no program. -/
import Derived.Test.YtdkfaepmgennjaaHpNone
import Derived.RangeFuncNested
import Derived.RangeFuncBound
import Derived.RangeFuncCalls
import Derived.RangeFuncLeaves
import Derived.RangeFuncFrom
namespace Go.Proofs.Ytdkfaepmgennjaa
open Go Go.RowKit
section
variable {P : Program} {F : Fence} {n : Nat}
/-- What an iterator does, that writes block b (the first one that it lays) and new blocks alone, and needs what lies at kp. -/
def IterC {α : Type} (F : Fence) (n : Nat) (P : Program) (gf : Nat) (lb : Array Value) (encs : α → Array Value) (b m : Nat) (kp : Nat → Prop) (S Sp : List α → Prop) (W : World) : Prop :=
  ∀ (l : Nat) (J Jx : List α → World → Prop) (W0 : World), W0.heap.size = b → (∀ k, kp k → k < b → W0.heap[k]? = W.heap[k]?) →
    (∀ pre W1 W2, J pre W1 → W1.grownBy W2 (some b) → J pre W2) → (∀ pre W1 W2, Jx pre W1 → W1.grownBy W2 (some b) → Jx pre W2) →
    (∀ pre x W1, J pre W1 → pre.length ≤ m → b < W1.heap.size → YieldAt F (n - 1) P l (encs x) W1 fun e W' =>
      (e = .returned (.bool true) ∧ J (pre ++ [x]) W' ∧ W1.heap.size ≤ W'.heap.size ∧ ∀ k, kp k → W'.heap[k]? = W1.heap[k]?) ∨ (e = .returned (.bool false) ∧ Jx (pre ++ [x]) W')) →
    J [] W0 →
    CallsIn F n P gf (#[.func (.yield l) #[] #[]] ++ lb) W0 fun e W' => (∃ v, e = .returned v) ∧ ((∃ xs, S xs ∧ J xs W') ∨ (∃ pre, Sp pre ∧ Jx pre W'))

/-- How a round may end. -/
def roundEnds {α : Type} (kp : Nat → Prop) (I : List α → World → Prop) (Ix : Code → List α → World → Prop) (xs : List α) (W : World) : Exit → Act → World → Prop
  | .normal, _, W' => KeepsOthers W W' ∧ (∀ k, kp k → W'.heap[k]? = W.heap[k]?) ∧ I xs W'
  | .ret, _, W' => KeepsOthers W W' ∧ Ix .ret xs W'
  | _, _, _ => False

theorem wpIn_rangeFunc_cells {α : Type} {g : Operand} {ps : Array Tmp} {assign body : Code} {Q : Exit → Act → World → Prop} {a : Act} {w : World}
    (hro : F.round = none) (h1 : 1 ≤ n) {gf : Nat} {lb : Array Value} (hg : a.eval g = .func (.func gf) #[] lb) (hFg : F.fn gf) (eg : ∀ args w, (callFunc gf args).run P w = .ok (.enter gf args) w)
    {encs : α → Array Value} (hps : ∀ x, (encs x).size = ps.size) {m : Nat} {kp : Nat → Prop} {S Sp : List α → Prop}
    (hkp : ∀ k, kp k → k < w.heap.size ∨ k = w.heap.size + 2)
    (hiter : IterC F (n - 1) P gf lb encs (w.heap.size + 2) m kp S Sp w)
    (I : List α → World → Prop) (Ix : Code → List α → World → Prop) (A : List α → α → Act → World → Prop)
    (hI : ∀ pre W W' row, I pre W → W.grownBy W' row → (∀ r, row = some r → r = w.heap.size ∨ r = w.heap.size + 1 ∨ r = w.heap.size + 2) → I pre W')
    (hIx : ∀ c pre W W' row, Ix c pre W → W.grownBy W' row → (∀ r, row = some r → r = w.heap.size ∨ r = w.heap.size + 1 ∨ r = w.heap.size + 2) → Ix c pre W')
    (hA : ∀ pre x a₁ W W' row, A pre x a₁ W → W.grownBy W' row → (∀ r, row = some r → r = w.heap.size ∨ r = w.heap.size + 1 ∨ r = w.heap.size + 2) → A pre x a₁ W')
    (h0 : I [] w)
    (hassign : ∀ l pre x W (K : Act → World → Prop), I pre W → pre.length ≤ m → w.heap.size + 2 < W.heap.size → (∀ a₁ W1, KeepsOthers W W1 → (∀ k, kp k → W1.heap[k]? = W.heap[k]?) → A pre x a₁ W1 → K a₁ W1) →
      assign.wpIn (F.inRound l) (n - 1 - 1) P (Exit.then K (fun _ _ _ => False)) { tmps := (ps.zip (encs x)).foldl (fun t (p, v) => t.setIfInBounds p v) a.tmps, defers := [] } W)
    (hbody : ∀ l pre x a₁ W, A pre x a₁ W → w.heap.size + 2 < W.heap.size → body.wpIn (F.inRound l) (n - 1 - 1) P (roundEnds kp I Ix (pre ++ [x]) W) a₁ W)
    (hdone : ∀ xs W, S xs → I xs W → W.heap[w.heap.size]? = some (.deferred (some [])) → Q .normal { a with defers := { target := .collected w.heap.size, args := #[] } :: a.defers } W)
    (hstop : ∀ (c : Code) pre W, Sp pre → Ix c pre W → W.heap[w.heap.size]? = some (.deferred (some [])) → c.wpIn F n P Q { a with defers := { target := .collected w.heap.size, args := #[] } :: a.defers } W) :
    (Code.rangeFunc g ps assign body).wpIn F n P Q a w := by
  refine wpIn_rangeFunc ?_
  intro fn hfn
  rw [hro]
  obtain ⟨rec, hrec⟩ : ∃ rec : LoopState → Option Code → Loop, rec = fun st pe => { state := st, pending := pe, fn, tmps := a.tmps, params := ps, assign, body, defers := w.heap.size } := ⟨_, rfl⟩
  have gp : ∀ (W : World) (l : Nat) (o : Obj), W.grownBy (W.putObj l o) (some l) := grownBy_putObj'
  obtain ⟨N, hN⟩ : ∃ N, w.heap.size = N := ⟨_, rfl⟩
  obtain ⟨W1, hW1⟩ : ∃ W1, (w.alloc (.deferred (some []))).alloc (.loop (rec .ready none)) = W1 := ⟨_, rfl⟩
  have hsz1 : W1.heap.size = N + 2 := by rw [← hW1, ← hN]; simp
  have hL1 : W1.heap[N + 1]? = some (.loop (rec .ready none)) := by
    rw [← hW1, ← hN]
    have := World.alloc_heap_new (w.alloc (.deferred (some []))) (.loop (rec .ready none))
    rwa [World.size_alloc] at this
  have hK1 : W1.heap[N]? = some (.deferred (some [])) := by
    rw [← hW1, ← hN]
    exact (Below.heap_alloc _ _ _ (by simp)).trans (World.alloc_heap_new w _)
  have hI1 : I [] W1 := by
    rw [← hW1]
    exact hI _ _ _ none (hI _ _ _ none h0 (World.grownBy_alloc _ _ none) (fun r e => by cases e)) (World.grownBy_alloc _ _ none) (fun r e => by cases e)
  rw [hN] at hkp hiter hI hIx hA hassign hbody hdone hstop
  have row1 : ∀ r, some (N + 1) = some r → r = N ∨ r = N + 1 ∨ r = N + 2 := fun r e => Or.inr (Or.inl (Option.some.inj e).symm)
  have row2 : ∀ r, some (N + 2) = some r → r = N ∨ r = N + 1 ∨ r = N + 2 := fun r e => Or.inr (Or.inr (Option.some.inj e).symm)
  have kept2 : ∀ {X Y : World} {k : Nat} {o : Obj}, X.grownBy Y (some (N + 2)) → k ≠ N + 2 → X.heap[k]? = some o → Y.heap[k]? = some o := fun hg hk h =>
    (hg.block _ (Array.getElem?_eq_some_iff.1 h).1 (fun e => hk (Option.some.inj e))).trans h
  refine ⟨N + 1, [{ target := .collected N, args := #[] }], W1, { target := .fn (.func gf) lb, args := #[.func (.yield (N + 1)) #[] #[]] }, W1, gf,
    #[.func (.yield (N + 1)) #[] #[]] ++ lb, W1, ?_, ?_, ?_, ?_, fun _ => h1, ?_⟩
  · rw [← hW1, hrec, ← hN]
    exact run_enterLoop_outer _ _ _ _ _
  · simp only [resolve, hg]
    simp [go_sem]
  · intro f' hf'
    simp [Target.leads] at hf'
    subst hf'
    exact hFg
  · simp [invoke, go_sem, eg]
  · refine (hiter (N + 1)
      (fun pre W => I pre W ∧ W.heap[N + 1]? = some (.loop (rec .ready none)) ∧ W.heap[N]? = some (.deferred (some [])))
      (fun pre W => Ix .ret pre W ∧ W.heap[N + 1]? = some (.loop (rec .done (some .ret))) ∧ W.heap[N]? = some (.deferred (some [])))
      W1 hsz1 ?_ ?_ ?_ ?_ ⟨hI1, hL1, hK1⟩).mono ?_
    · intro k hk hlt
      rcases hkp k hk with h | h
      · rw [← hW1]
        exact (Below.heap_alloc _ _ _ (by simp; omega)).trans (Below.heap_alloc _ _ _ (by omega))
      · omega
    · rintro pre X Y ⟨hi, hl, hk⟩ hg'
      exact ⟨hI _ _ _ _ hi hg' row2, kept2 hg' (by omega) hl, kept2 hg' (by omega) hk⟩
    · rintro pre X Y ⟨hi, hl, hk⟩ hg'
      exact ⟨hIx _ _ _ _ _ hi hg' row2, kept2 hg' (by omega) hl, kept2 hg' (by omega) hk⟩
    · rintro pre x W ⟨hi, hl, hk⟩ hpl hlen
      have hy := run_yield (P := P) (args := encs x) hl (by rw [hrec]; exact hps x)
      rw [hrec] at hy
      refine ⟨fn, _, assign, body, hy, roundIn_of_wpIn hfn (hassign (N + 1) pre x W _ hi hpl hlen ?_)⟩
      intro a₁ W2 hko hkk hA2
      have hl2 := hko.same _ _ hl rfl
      have hk2 := hko.same _ _ hk rfl
      have hlt2 : N + 1 < W2.heap.size := (Array.getElem?_eq_some_iff.1 hl2).1
      have hs2 := hko.size
      refine ⟨_, run_beginRound hl2 (by rw [hrec]), ?_⟩
      have hl3 : (W2.putObj (N + 1) (.loop { rec .ready none with state := .busy })).heap[N + 1]? = some (.loop { rec .ready none with state := .busy }) := World.putObj_heap_same hlt2
      have hk3 : (W2.putObj (N + 1) (.loop { rec .ready none with state := .busy })).heap[N]? = some (.deferred (some [])) := (World.putObj_heap_other (by omega)).trans hk2
      refine wpIn_mono (hbody (N + 1) pre x a₁ _ (hA _ _ _ _ _ _ hA2 (gp _ _ _) row1) (by simp; omega)) ?_
      have fin : ∀ (jump : Option Code) (W3 : World), KeepsOthers (W2.putObj (N + 1) (.loop { rec .ready none with state := .busy })) W3 →
          (Instr.endRound (N + 1) jump).run P W3 = .ok (.bool jump.isNone) (W3.putObj (N + 1) (.loop (rec (if jump.isNone then .ready else .done) jump))) ∧
          (W3.putObj (N + 1) (.loop (rec (if jump.isNone then .ready else .done) jump))).heap[N + 1]? = some (.loop (rec (if jump.isNone then .ready else .done) jump)) ∧
          (W3.putObj (N + 1) (.loop (rec (if jump.isNone then .ready else .done) jump))).heap[N]? = some (.deferred (some [])) := fun jump W3 hk5 => by
        have hl5 := hk5.same _ _ hl3 rfl
        have := run_endRound (P := P) jump hl5
        rw [hrec] at this ⊢
        exact ⟨this, World.putObj_heap_same (Array.getElem?_eq_some_iff.1 hl5).1, (World.putObj_heap_other (by omega)).trans (hk5.same _ _ hk3 rfl)⟩
      rintro e a3 W3 hp
      have hkm : ∀ k, kp k → k ≠ N + 1 := fun k hk e => by rcases hkp k hk with h | h <;> omega
      cases e with
      | normal =>
        obtain ⟨hk5, hkk5, hi5⟩ := hp
        obtain ⟨hr, hl6, hk6⟩ := fin none W3 hk5
        refine ⟨_, _, hr, .inl ⟨rfl, ⟨hI _ _ _ _ hi5 (gp _ _ _) row1, hl6, hk6⟩, ?_, fun k hk => ?_⟩⟩
        · have := hk5.size
          simp at this ⊢
          omega
        · exact (World.putObj_heap_other (hkm k hk)).trans ((hkk5 k hk).trans ((World.putObj_heap_other (hkm k hk)).trans (hkk k hk)))
      | ret =>
        obtain ⟨hk5, hi5⟩ := hp
        obtain ⟨hr, hl6, hk6⟩ := fin (some .ret) W3 hk5
        exact ⟨_, _, hr, .inr ⟨rfl, hIx _ _ _ _ _ hi5 (gp _ _ _) row1, hl6, hk6⟩⟩
      | exit id => exact hp.elim
      | goto t => exact hp.elim
      | panic ch => exact hp.elim
      | outgrown => exact hp.elim
    · rintro e W2 ⟨⟨v, rfl⟩, (⟨xs, hS, hi, hl, hk⟩ | ⟨pre, hSp, hi, hl, hk⟩)⟩
      · exact ⟨none, _, by have := run_endLoop (P := P) hl (by rw [hrec]; simp); rw [hrec] at this; exact this, hdone xs _ hS (hI _ _ _ _ hi (gp _ _ _) row1) ((World.putObj_heap_other (by omega)).trans hk)⟩
      · exact ⟨some .ret, _, by have := run_endLoop (P := P) hl (by rw [hrec]; simp); rw [hrec] at this; exact this, hstop .ret pre _ hSp (hIx _ _ _ _ _ hi (gp _ _ _) row1) ((World.putObj_heap_other (by omega)).trans hk)⟩
end
end Go.Proofs.Ytdkfaepmgennjaa
