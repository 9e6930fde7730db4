/- Swap: two values of a queue change places. -/
import Derived.Test.YtdkfaepmgennjaaHpQueue
import Derived.BigRegion
import Derived.RegionTactic
import Derived.WalkKit
namespace Go.Proofs.Ytdkfaepmgennjaa
open Go.RowKit Go.Maps
open H (IT)
set_option linter.unusedSimpArgs false
set_option maxRecDepth 100000
theorem gset {a w : World} {b : Nat} (h : a.grownBy w (some b)) (i : Nat) (v : Value) : a.grownBy (w.setCell ⟨b, i, none⟩ v) (some b) :=
  ⟨h.os, h.tape, h.output, by simpa using h.size, fun k hk hne => by rw [heap_setCell_other _ _ _ _ (fun e => hne (by rw [e]))]; exact h.block k hk hne⟩
theorem gdrew {a w : World} {r : Option Nat} (h : a.grownBy w r) : a.grownBy w.drew r := ⟨h.os, h.tape, h.output, h.size, h.block⟩
/-- Both lists behind the four stores. -/
theorem swap_laid {w : World} {gl cap m i j : Nat} {l : List IT} (h : OwnIt w (.slice (some ⟨gl, 0, none⟩) m cap) l) (hi : i < l.length) (hj : j < l.length) {a b c d : Int} (e1 : l[i] = (a, b)) (e2 : l[j] = (c, d)) :
    ∃ W, ((((w.setCell ⟨gl, i * 2, none⟩ (.int .i64 c)).setCell ⟨gl, i * 2 + 1, none⟩ (.int .i64 d)).setCell ⟨gl, j * 2, none⟩ (.int .i64 a)).setCell ⟨gl, j * 2 + 1, none⟩ (.int .i64 b)) = W ∧ OwnIt W (.slice (some ⟨gl, 0, none⟩) m cap) (H.sw l i j) ∧ w.grownBy W (some gl) := by
  refine ⟨_, rfl, ?_, gset (gset (gset (gset ⟨rfl, rfl, rfl, Nat.le_refl _, fun _ _ _ => rfl⟩ _ _) _ _) _ _) _ _⟩
  have := (h.set_ i c d).set_ j a b
  rw [H.sw_eq hi hj, e1, e2]
  exact this
set_option maxHeartbeats 2000000 in
theorem Swap_any (n g gm gl cap m N : Nat) (s : Value) (nx : Int) (l : List IT) (i j : Nat) (w : World) (hq : QAt w g gm n s nx (.slice (some ⟨gl, 0, none⟩) m cap) N l) (hm : l.length = m) (hi : i < l.length) (hj : j < l.length) (hij : i ≠ j) (hN : N + 2 < maxLen) (h5 : m ≤ 1000000) :
    Calls Try.prog 119 #[.pointer (some ⟨g, 2, none⟩), .int .i64 i, .int .i64 j] w fun e w' => e = .returned (.tuple #[]) ∧ QAt w' g gm n s nx (.slice (some ⟨gl, 0, none⟩) m cap) (N + 2) (H.sw l i j) ∧ Kept w w' g gm (.slice (some ⟨gl, 0, none⟩) m cap) := by
  obtain ⟨D, hD, hS⟩ := hq.map
  have hng : gl ≠ g := fun e => hq.ng (by rw [e]; rfl)
  have hnm : gl ≠ gm := fun e => hq.nm (by rw [e]; rfl)
  have hngm := hq.ngm
  obtain ⟨hll, i0, i1⟩ := hq.own.at_ hi
  obtain ⟨-, j0, j1⟩ := hq.own.at_ hj
  obtain ⟨⟨h, va⟩, e1⟩ : ∃ x, l[i] = x := ⟨_, rfl⟩
  obtain ⟨⟨k, vb⟩, e2⟩ : ∃ x, l[j] = x := ⟨_, rfl⟩
  obtain ⟨W1, eW, hO1, hG1⟩ := swap_laid (w := w) hq.own hi hj e1 e2
  have hwfi := hq.wf _ (List.getElem_mem hi)
  have hwfj := hq.wf _ (List.getElem_mem hj)
  rw [e1] at i0 i1 hwfi
  rw [e2] at j0 j1 hwfj
  simp only at i0 i1 j0 j1 hwfi hwfj
  have c4 : w.cell? ⟨g, 4, none⟩ = some (.slice (some ⟨gl, 0, none⟩) m cap) := by rw [cell_of_row _ _ _ _ _ _ hq.row]; rfl
  have c5 : w.cell? ⟨g, 5, none⟩ = some (.map (some gm)) := by rw [cell_of_row _ _ _ _ _ _ hq.row]; rfl
  have f0 := hq.own.frozen (i * 2)
  have f1 := hq.own.frozen (i * 2 + 1)
  have f2 := hq.own.frozen (j * 2)
  have f3 := hq.own.frozen (j * 2 + 1)
  have him : i < m := by rw [← hm]; exact hi
  have hjm : j < m := by rw [← hm]; exact hj
  have d1 : ¬ j * 2 = i * 2 := by omega
  have d2 : ¬ j * 2 = i * 2 + 1 := by omega
  have d3 : ¬ j * 2 + 1 = i * 2 := by omega
  have d4 : ¬ j * 2 + 1 = i * 2 + 1 := by omega
  have d5 : ¬ i * 2 = j * 2 := by omega
  have HQ := Lib.hid hq
  have HE := Lib.hid eW
  clear hq eW
  go_enter Try.func119, Try.ntmps119
  go_wp2_with fail
  go_region
  rw [HE.out]
  clear HE f0 f1 f2 f3 i0 i1 j0 j1 c4 c5 d1 d2 d3 d4 d5
  have hD1 : W1.ownsMap Try.prog 2 (plainElem Try.prog 3) gm N D := hD.kept hG1 (fun e => hnm (by injection e with e; exact e.symm))
  have hR1 : W1.heap[g]? = _ := (hG1.block g (Array.getElem?_eq_some_iff.1 HQ.out.row).1 (fun e => hng (by injection e with e; exact e.symm))).trans HQ.out.row
  have hK1 : Kept w W1 g gm (.slice (some ⟨gl, 0, none⟩) m cap) := ⟨hG1.os, hG1.tape, hG1.output, hG1.size, fun b hb _ _ h3 => hG1.block b hb (fun e => h3 (by injection e with e; rw [e]; rfl))⟩
  clear hG1
  go_wp2_with fail
  have hOx : OwnIt W1.drew.drew (.slice (some ⟨gl, 0, none⟩) m cap) (H.sw l i j) := hO1
  have hRx : (W1.drew.drew).heap[g]? = some (rowQ s nx (.func (.func n) #[] #[]) false (.slice (some ⟨gl, 0, none⟩) m cap) (.map (some gm))) := hR1
  have hDx : (W1.drew.drew).ownsMap Try.prog 2 (plainElem Try.prog 3) gm N D := hD1
  have hKx : Kept w (W1.drew.drew) g gm (.slice (some ⟨gl, 0, none⟩) m cap) := hK1.drew.drew
  refine wp_region_noPanic ?_
  refine wp_region_held_drew (S := (fun v => (W1.drew.drew).grownBy v (some gm))) (by kernel_rfl) ⟨rfl, rfl, rfl, Nat.le_refl _, fun _ _ _ => rfl⟩ (fun hHeld => ?_)
  replace hHeld : (W1.drew.drew).grownBy (W1.drew.drew) (some gm) := hHeld
  generalize W1.drew.drew = X1 at hHeld hOx hRx hDx hKx ⊢
  have q4 : X1.cell? ⟨g, 4, none⟩ = some (.slice (some ⟨gl, 0, none⟩) m cap) := by rw [cell_of_row _ _ _ _ _ _ hRx]; rfl
  have q5 : X1.cell? ⟨g, 5, none⟩ = some (.map (some gm)) := by rw [cell_of_row _ _ _ _ _ _ hRx]; rfl
  have qk : X1.cell? ⟨gl, i * 2, none⟩ = some (.int .i64 k) := by have := (hOx.at_ (k := i) (by rw [H.sw_len]; omega)).2.1; rwa [show ((H.sw l i j)[i]'(by rw [H.sw_len]; omega)).1 = k from by rw [H.sw_at hi hj]; simp [e1, e2, hij, Ne.symm hij]] at this
  have Q4 := Lib.hid q4
  have Q5 := Lib.hid q5
  have QK := Lib.hid qk
  clear q4 q5 qk
  refine wpAnyH_take (i := 0) (oi := ({ dst := some 32, op := Op.move (Operand.tmp 0), type := 98, pos := "values.go:27", after := #[], guard := none } : Oper)) (v := ?_) rfl (by kernel_rfl) (by kernel_rfl) (by kernel_rfl) (fun _ _ _ h => h) (Or.inl ⟨by rfl, ?_⟩) (by assumption) ?_
  rotate_left 1
  · intro v hSw
    replace hSw : X1.grownBy v (some gm) := hSw
    have s4 := hSw.cell Q4.out (fun e => hngm (by injection e))
    have s5 := hSw.cell Q5.out (fun e => hngm (by injection e))
    have sk := hSw.cell QK.out (fun e => hnm (by injection e))
    (try go_simp)
    (try with_reducible rfl)
  (try simp only [Act.put, List.setIfInBounds_toArray, List.set_cons_zero, List.set_cons_succ])
  refine wpAnyH_take (i := 1) (oi := ({ dst := some 33, op := Op.nilCheck (Operand.tmp 32), type := 0, pos := "values.go:27", after := #[{ on := 0, ground := Ground.data }], guard := none } : Oper)) (v := ?_) rfl (by kernel_rfl) (by kernel_rfl) (by kernel_rfl) (fun _ _ _ h => h) (Or.inl ⟨by rfl, ?_⟩) (by assumption) ?_
  rotate_left 1
  · intro v hSw
    replace hSw : X1.grownBy v (some gm) := hSw
    have s4 := hSw.cell Q4.out (fun e => hngm (by injection e))
    have s5 := hSw.cell Q5.out (fun e => hngm (by injection e))
    have sk := hSw.cell QK.out (fun e => hnm (by injection e))
    (try go_simp)
    (try with_reducible rfl)
  (try simp only [Act.put, List.setIfInBounds_toArray, List.set_cons_zero, List.set_cons_succ])
  refine wpAnyH_take (i := 2) (oi := ({ dst := some 34, op := Op.fieldAddr 45 (Operand.tmp 33) 3, type := 0, pos := "values.go:27", after := #[{ on := 1, ground := Ground.data }], guard := none } : Oper)) (v := ?_) rfl (by kernel_rfl) (by kernel_rfl) (by kernel_rfl) (fun _ _ _ h => h) (Or.inl ⟨by rfl, ?_⟩) (by assumption) ?_
  rotate_left 1
  · intro v hSw
    replace hSw : X1.grownBy v (some gm) := hSw
    have s4 := hSw.cell Q4.out (fun e => hngm (by injection e))
    have s5 := hSw.cell Q5.out (fun e => hngm (by injection e))
    have sk := hSw.cell QK.out (fun e => hnm (by injection e))
    (try go_simp)
    (try with_reducible rfl)
  (try simp only [Act.put, List.setIfInBounds_toArray, List.set_cons_zero, List.set_cons_succ])
  refine wpAnyH_take (i := 3) (oi := ({ dst := some 35, op := Op.load 43 (Operand.tmp 34), type := 43, pos := "values.go:27", after := #[{ on := 2, ground := Ground.data }], guard := none } : Oper)) (v := ?_) rfl (by kernel_rfl) (by kernel_rfl) (by kernel_rfl) (fun _ _ _ h => h) (Or.inl ⟨by rfl, ?_⟩) (by assumption) ?_
  rotate_left 1
  · intro v hSw
    replace hSw : X1.grownBy v (some gm) := hSw
    have s4 := hSw.cell Q4.out (fun e => hngm (by injection e))
    have s5 := hSw.cell Q5.out (fun e => hngm (by injection e))
    have sk := hSw.cell QK.out (fun e => hnm (by injection e))
    (try go_simp)
    (try with_reducible rfl)
  (try simp only [Act.put, List.setIfInBounds_toArray, List.set_cons_zero, List.set_cons_succ])
  refine wpAnyH_take (i := 4) (oi := ({ dst := some 36, op := Op.move (Operand.tmp 0), type := 98, pos := "values.go:27", after := #[], guard := none } : Oper)) (v := ?_) rfl (by kernel_rfl) (by kernel_rfl) (by kernel_rfl) (fun _ _ _ h => h) (Or.inl ⟨by rfl, ?_⟩) (by assumption) ?_
  rotate_left 1
  · intro v hSw
    replace hSw : X1.grownBy v (some gm) := hSw
    have s4 := hSw.cell Q4.out (fun e => hngm (by injection e))
    have s5 := hSw.cell Q5.out (fun e => hngm (by injection e))
    have sk := hSw.cell QK.out (fun e => hnm (by injection e))
    (try go_simp)
    (try with_reducible rfl)
  (try simp only [Act.put, List.setIfInBounds_toArray, List.set_cons_zero, List.set_cons_succ])
  refine wpAnyH_take (i := 5) (oi := ({ dst := some 37, op := Op.nilCheck (Operand.tmp 36), type := 0, pos := "values.go:27", after := #[{ on := 4, ground := Ground.data }], guard := none } : Oper)) (v := ?_) rfl (by kernel_rfl) (by kernel_rfl) (by kernel_rfl) (fun _ _ _ h => h) (Or.inl ⟨by rfl, ?_⟩) (by assumption) ?_
  rotate_left 1
  · intro v hSw
    replace hSw : X1.grownBy v (some gm) := hSw
    have s4 := hSw.cell Q4.out (fun e => hngm (by injection e))
    have s5 := hSw.cell Q5.out (fun e => hngm (by injection e))
    have sk := hSw.cell QK.out (fun e => hnm (by injection e))
    (try go_simp)
    (try with_reducible rfl)
  (try simp only [Act.put, List.setIfInBounds_toArray, List.set_cons_zero, List.set_cons_succ])
  refine wpAnyH_take (i := 6) (oi := ({ dst := some 38, op := Op.fieldAddr 45 (Operand.tmp 37) 2, type := 0, pos := "values.go:27", after := #[{ on := 5, ground := Ground.data }], guard := none } : Oper)) (v := ?_) rfl (by kernel_rfl) (by kernel_rfl) (by kernel_rfl) (fun _ _ _ h => h) (Or.inl ⟨by rfl, ?_⟩) (by assumption) ?_
  rotate_left 1
  · intro v hSw
    replace hSw : X1.grownBy v (some gm) := hSw
    have s4 := hSw.cell Q4.out (fun e => hngm (by injection e))
    have s5 := hSw.cell Q5.out (fun e => hngm (by injection e))
    have sk := hSw.cell QK.out (fun e => hnm (by injection e))
    (try go_simp)
    (try with_reducible rfl)
  (try simp only [Act.put, List.setIfInBounds_toArray, List.set_cons_zero, List.set_cons_succ])
  refine wpAnyH_take (i := 7) (oi := ({ dst := some 39, op := Op.load 22 (Operand.tmp 38), type := 22, pos := "values.go:27", after := #[{ on := 6, ground := Ground.data }], guard := none } : Oper)) (v := ?_) rfl (by kernel_rfl) (by kernel_rfl) (by kernel_rfl) (fun _ _ _ h => h) (Or.inl ⟨by rfl, ?_⟩) (by assumption) ?_
  rotate_left 1
  · intro v hSw
    replace hSw : X1.grownBy v (some gm) := hSw
    have s4 := hSw.cell Q4.out (fun e => hngm (by injection e))
    have s5 := hSw.cell Q5.out (fun e => hngm (by injection e))
    have sk := hSw.cell QK.out (fun e => hnm (by injection e))
    (try go_simp)
    (try with_reducible rfl)
  (try simp only [Act.put, List.setIfInBounds_toArray, List.set_cons_zero, List.set_cons_succ])
  refine wpAnyH_take (i := 8) (oi := ({ dst := some 40, op := Op.move (Operand.tmp 1), type := 3, pos := "values.go:27", after := #[], guard := none } : Oper)) (v := ?_) rfl (by kernel_rfl) (by kernel_rfl) (by kernel_rfl) (fun _ _ _ h => h) (Or.inl ⟨by rfl, ?_⟩) (by assumption) ?_
  rotate_left 1
  · intro v hSw
    replace hSw : X1.grownBy v (some gm) := hSw
    have s4 := hSw.cell Q4.out (fun e => hngm (by injection e))
    have s5 := hSw.cell Q5.out (fun e => hngm (by injection e))
    have sk := hSw.cell QK.out (fun e => hnm (by injection e))
    (try go_simp)
    (try with_reducible rfl)
  (try simp only [Act.put, List.setIfInBounds_toArray, List.set_cons_zero, List.set_cons_succ])
  refine wpAnyH_take (i := 9) (oi := ({ dst := some 41, op := Op.indexAddr 22 (Operand.tmp 39) (Operand.tmp 40), type := 0, pos := "values.go:27", after := #[{ on := 7, ground := Ground.data }, { on := 8, ground := Ground.data }], guard := none } : Oper)) (v := ?_) rfl (by kernel_rfl) (by kernel_rfl) (by kernel_rfl) (fun _ _ _ h => h) (Or.inl ⟨by rfl, ?_⟩) (by assumption) ?_
  rotate_left 1
  · intro v hSw
    replace hSw : X1.grownBy v (some gm) := hSw
    have s4 := hSw.cell Q4.out (fun e => hngm (by injection e))
    have s5 := hSw.cell Q5.out (fun e => hngm (by injection e))
    have sk := hSw.cell QK.out (fun e => hnm (by injection e))
    (try go_simp)
    (try with_reducible rfl)
  (try simp only [Act.put, List.setIfInBounds_toArray, List.set_cons_zero, List.set_cons_succ])
  refine wpAnyH_take (i := 10) (oi := ({ dst := some 42, op := Op.fieldAddr 64 (Operand.tmp 41) 0, type := 0, pos := "values.go:27", after := #[{ on := 9, ground := Ground.data }], guard := none } : Oper)) (v := ?_) rfl (by kernel_rfl) (by kernel_rfl) (by kernel_rfl) (fun _ _ _ h => h) (Or.inl ⟨by rfl, ?_⟩) (by assumption) ?_
  rotate_left 1
  · intro v hSw
    replace hSw : X1.grownBy v (some gm) := hSw
    have s4 := hSw.cell Q4.out (fun e => hngm (by injection e))
    have s5 := hSw.cell Q5.out (fun e => hngm (by injection e))
    have sk := hSw.cell QK.out (fun e => hnm (by injection e))
    (try go_simp)
    (try with_reducible rfl)
  (try simp only [Act.put, List.setIfInBounds_toArray, List.set_cons_zero, List.set_cons_succ])
  refine wpAnyH_take (i := 11) (oi := ({ dst := some 43, op := Op.load 2 (Operand.tmp 42), type := 2, pos := "values.go:27", after := #[{ on := 10, ground := Ground.data }], guard := none } : Oper)) (v := ?_) rfl (by kernel_rfl) (by kernel_rfl) (by kernel_rfl) (fun _ _ _ h => h) (Or.inl ⟨by rfl, ?_⟩) (by assumption) ?_
  rotate_left 1
  · intro v hSw
    replace hSw : X1.grownBy v (some gm) := hSw
    have s4 := hSw.cell Q4.out (fun e => hngm (by injection e))
    have s5 := hSw.cell Q5.out (fun e => hngm (by injection e))
    have sk := hSw.cell QK.out (fun e => hnm (by injection e))
    (try go_simp)
    (try with_reducible rfl)
  (try simp only [Act.put, List.setIfInBounds_toArray, List.set_cons_zero, List.set_cons_succ])
  refine wpAnyH_take (i := 12) (oi := ({ dst := some 44, op := Op.move (Operand.tmp 1), type := 3, pos := "values.go:27", after := #[], guard := none } : Oper)) (v := ?_) rfl (by kernel_rfl) (by kernel_rfl) (by kernel_rfl) (fun _ _ _ h => h) (Or.inl ⟨by rfl, ?_⟩) (by assumption) ?_
  rotate_left 1
  · intro v hSw
    replace hSw : X1.grownBy v (some gm) := hSw
    have s4 := hSw.cell Q4.out (fun e => hngm (by injection e))
    have s5 := hSw.cell Q5.out (fun e => hngm (by injection e))
    have sk := hSw.cell QK.out (fun e => hnm (by injection e))
    (try go_simp)
    (try with_reducible rfl)
  (try simp only [Act.put, List.setIfInBounds_toArray, List.set_cons_zero, List.set_cons_succ])
  refine wpAnyH_ready (rs := [13]) (by kernel_rfl) (by simp) ?_
  refine AllReadyH.cons (o := ({ dst := none, op := Op.mapUpdate 43 (Operand.tmp 35) (Operand.tmp 43) (Operand.tmp 44), type := 0, pos := "values.go:27", after := #[{ on := 3, ground := Ground.data }, { on := 11, ground := Ground.data }, { on := 12, ground := Ground.data }, { on := 0, ground := Ground.phase }, { on := 1, ground := Ground.phase }, { on := 2, ground := Ground.phase }, { on := 3, ground := Ground.phase }, { on := 4, ground := Ground.phase }, { on := 5, ground := Ground.phase }, { on := 6, ground := Ground.phase }, { on := 7, ground := Ground.phase }, { on := 8, ground := Ground.phase }, { on := 9, ground := Ground.phase }, { on := 10, ground := Ground.phase }, { on := 11, ground := Ground.phase }, { on := 12, ground := Ground.phase }], guard := none } : Oper)) rfl (fun K hK => ?_) (AllReadyH.nil)
  obtain ⟨Y1, hrun, hDy, hGy⟩ := hDx.update lawK Try.underlying43 (by omega) (keyOf_int_mk Try.underlying2 hwfj) (plainElem_int (H := Unit) (a := (i : Int)) Try.underlying3 (WalkArith.wf_i64 (by omega)))
  go_simp
  refine hK.out _ _ hGy (fun _ => ?_)
  clear hK K
  (try simp only [Act.put, List.setIfInBounds_toArray, List.set_cons_zero, List.set_cons_succ])
  refine wpAnyH_done (by kernel_rfl) ?_ _
  refine NoPanic.normal ?_
  have hO12 : OwnIt Y1 (.slice (some ⟨gl, 0, none⟩) m cap) (H.sw l i j) := hOx.kept (fun b hb => hGy.block b (hOx.lt b hb) (by intro e; injection e with e; have hb' : gl = b := (by simpa [Value.ownBlock] using hb); omega))
  have hR12 := (hGy.block g (Array.getElem?_eq_some_iff.1 hRx).1 (fun e => hngm (by injection e))).trans hRx
  have hK12 : Kept w Y1 g gm (.slice (some ⟨gl, 0, none⟩) m cap) := hKx.trans (v1 := .slice (some ⟨gl, 0, none⟩) m cap) ⟨hGy.os, hGy.tape, hGy.output, hGy.size, fun b hb _ h2 _ => hGy.block b hb (fun e => h2 (by injection e))⟩ (.inl rfl)
  clear hHeld hOx hRx hKx hDx Q4 Q5 QK hrun hGy
  have hD12 := hDy
  clear hDy
  go_wp2_with fail
  have hOx : OwnIt Y1.drew (.slice (some ⟨gl, 0, none⟩) m cap) (H.sw l i j) := hO12
  have hRx : (Y1.drew).heap[g]? = some (rowQ s nx (.func (.func n) #[] #[]) false (.slice (some ⟨gl, 0, none⟩) m cap) (.map (some gm))) := hR12
  have hDx : (Y1.drew).ownsMap Try.prog 2 (plainElem Try.prog 3) gm (N + 1) _ := hD12
  have hKx : Kept w (Y1.drew) g gm (.slice (some ⟨gl, 0, none⟩) m cap) := hK12.drew
  refine wp_region_noPanic ?_
  refine wp_region_held_drew (S := (fun v => (Y1.drew).grownBy v (some gm))) (by kernel_rfl) ⟨rfl, rfl, rfl, Nat.le_refl _, fun _ _ _ => rfl⟩ (fun hHeld => ?_)
  replace hHeld : (Y1.drew).grownBy (Y1.drew) (some gm) := hHeld
  generalize Y1.drew = X2 at hHeld hOx hRx hDx hKx ⊢
  have q4 : X2.cell? ⟨g, 4, none⟩ = some (.slice (some ⟨gl, 0, none⟩) m cap) := by rw [cell_of_row _ _ _ _ _ _ hRx]; rfl
  have q5 : X2.cell? ⟨g, 5, none⟩ = some (.map (some gm)) := by rw [cell_of_row _ _ _ _ _ _ hRx]; rfl
  have qk : X2.cell? ⟨gl, j * 2, none⟩ = some (.int .i64 h) := by have := (hOx.at_ (k := j) (by rw [H.sw_len]; omega)).2.1; rwa [show ((H.sw l i j)[j]'(by rw [H.sw_len]; omega)).1 = h from by rw [H.sw_at hi hj]; simp [e1, e2, hij, Ne.symm hij]] at this
  have Q4 := Lib.hid q4
  have Q5 := Lib.hid q5
  have QK := Lib.hid qk
  clear q4 q5 qk
  refine wpAnyH_take (i := 0) (oi := ({ dst := some 45, op := Op.move (Operand.tmp 0), type := 98, pos := "values.go:28", after := #[], guard := none } : Oper)) (v := ?_) rfl (by kernel_rfl) (by kernel_rfl) (by kernel_rfl) (fun _ _ _ h => h) (Or.inl ⟨by rfl, ?_⟩) (by assumption) ?_
  rotate_left 1
  · intro v hSw
    replace hSw : X2.grownBy v (some gm) := hSw
    have s4 := hSw.cell Q4.out (fun e => hngm (by injection e))
    have s5 := hSw.cell Q5.out (fun e => hngm (by injection e))
    have sk := hSw.cell QK.out (fun e => hnm (by injection e))
    (try go_simp)
    (try with_reducible rfl)
  (try simp only [Act.put, List.setIfInBounds_toArray, List.set_cons_zero, List.set_cons_succ])
  refine wpAnyH_take (i := 1) (oi := ({ dst := some 46, op := Op.nilCheck (Operand.tmp 45), type := 0, pos := "values.go:28", after := #[{ on := 0, ground := Ground.data }], guard := none } : Oper)) (v := ?_) rfl (by kernel_rfl) (by kernel_rfl) (by kernel_rfl) (fun _ _ _ h => h) (Or.inl ⟨by rfl, ?_⟩) (by assumption) ?_
  rotate_left 1
  · intro v hSw
    replace hSw : X2.grownBy v (some gm) := hSw
    have s4 := hSw.cell Q4.out (fun e => hngm (by injection e))
    have s5 := hSw.cell Q5.out (fun e => hngm (by injection e))
    have sk := hSw.cell QK.out (fun e => hnm (by injection e))
    (try go_simp)
    (try with_reducible rfl)
  (try simp only [Act.put, List.setIfInBounds_toArray, List.set_cons_zero, List.set_cons_succ])
  refine wpAnyH_take (i := 2) (oi := ({ dst := some 47, op := Op.fieldAddr 45 (Operand.tmp 46) 3, type := 0, pos := "values.go:28", after := #[{ on := 1, ground := Ground.data }], guard := none } : Oper)) (v := ?_) rfl (by kernel_rfl) (by kernel_rfl) (by kernel_rfl) (fun _ _ _ h => h) (Or.inl ⟨by rfl, ?_⟩) (by assumption) ?_
  rotate_left 1
  · intro v hSw
    replace hSw : X2.grownBy v (some gm) := hSw
    have s4 := hSw.cell Q4.out (fun e => hngm (by injection e))
    have s5 := hSw.cell Q5.out (fun e => hngm (by injection e))
    have sk := hSw.cell QK.out (fun e => hnm (by injection e))
    (try go_simp)
    (try with_reducible rfl)
  (try simp only [Act.put, List.setIfInBounds_toArray, List.set_cons_zero, List.set_cons_succ])
  refine wpAnyH_take (i := 3) (oi := ({ dst := some 48, op := Op.load 43 (Operand.tmp 47), type := 43, pos := "values.go:28", after := #[{ on := 2, ground := Ground.data }], guard := none } : Oper)) (v := ?_) rfl (by kernel_rfl) (by kernel_rfl) (by kernel_rfl) (fun _ _ _ h => h) (Or.inl ⟨by rfl, ?_⟩) (by assumption) ?_
  rotate_left 1
  · intro v hSw
    replace hSw : X2.grownBy v (some gm) := hSw
    have s4 := hSw.cell Q4.out (fun e => hngm (by injection e))
    have s5 := hSw.cell Q5.out (fun e => hngm (by injection e))
    have sk := hSw.cell QK.out (fun e => hnm (by injection e))
    (try go_simp)
    (try with_reducible rfl)
  (try simp only [Act.put, List.setIfInBounds_toArray, List.set_cons_zero, List.set_cons_succ])
  refine wpAnyH_take (i := 4) (oi := ({ dst := some 49, op := Op.move (Operand.tmp 0), type := 98, pos := "values.go:28", after := #[], guard := none } : Oper)) (v := ?_) rfl (by kernel_rfl) (by kernel_rfl) (by kernel_rfl) (fun _ _ _ h => h) (Or.inl ⟨by rfl, ?_⟩) (by assumption) ?_
  rotate_left 1
  · intro v hSw
    replace hSw : X2.grownBy v (some gm) := hSw
    have s4 := hSw.cell Q4.out (fun e => hngm (by injection e))
    have s5 := hSw.cell Q5.out (fun e => hngm (by injection e))
    have sk := hSw.cell QK.out (fun e => hnm (by injection e))
    (try go_simp)
    (try with_reducible rfl)
  (try simp only [Act.put, List.setIfInBounds_toArray, List.set_cons_zero, List.set_cons_succ])
  refine wpAnyH_take (i := 5) (oi := ({ dst := some 50, op := Op.nilCheck (Operand.tmp 49), type := 0, pos := "values.go:28", after := #[{ on := 4, ground := Ground.data }], guard := none } : Oper)) (v := ?_) rfl (by kernel_rfl) (by kernel_rfl) (by kernel_rfl) (fun _ _ _ h => h) (Or.inl ⟨by rfl, ?_⟩) (by assumption) ?_
  rotate_left 1
  · intro v hSw
    replace hSw : X2.grownBy v (some gm) := hSw
    have s4 := hSw.cell Q4.out (fun e => hngm (by injection e))
    have s5 := hSw.cell Q5.out (fun e => hngm (by injection e))
    have sk := hSw.cell QK.out (fun e => hnm (by injection e))
    (try go_simp)
    (try with_reducible rfl)
  (try simp only [Act.put, List.setIfInBounds_toArray, List.set_cons_zero, List.set_cons_succ])
  refine wpAnyH_take (i := 6) (oi := ({ dst := some 51, op := Op.fieldAddr 45 (Operand.tmp 50) 2, type := 0, pos := "values.go:28", after := #[{ on := 5, ground := Ground.data }], guard := none } : Oper)) (v := ?_) rfl (by kernel_rfl) (by kernel_rfl) (by kernel_rfl) (fun _ _ _ h => h) (Or.inl ⟨by rfl, ?_⟩) (by assumption) ?_
  rotate_left 1
  · intro v hSw
    replace hSw : X2.grownBy v (some gm) := hSw
    have s4 := hSw.cell Q4.out (fun e => hngm (by injection e))
    have s5 := hSw.cell Q5.out (fun e => hngm (by injection e))
    have sk := hSw.cell QK.out (fun e => hnm (by injection e))
    (try go_simp)
    (try with_reducible rfl)
  (try simp only [Act.put, List.setIfInBounds_toArray, List.set_cons_zero, List.set_cons_succ])
  refine wpAnyH_take (i := 7) (oi := ({ dst := some 52, op := Op.load 22 (Operand.tmp 51), type := 22, pos := "values.go:28", after := #[{ on := 6, ground := Ground.data }], guard := none } : Oper)) (v := ?_) rfl (by kernel_rfl) (by kernel_rfl) (by kernel_rfl) (fun _ _ _ h => h) (Or.inl ⟨by rfl, ?_⟩) (by assumption) ?_
  rotate_left 1
  · intro v hSw
    replace hSw : X2.grownBy v (some gm) := hSw
    have s4 := hSw.cell Q4.out (fun e => hngm (by injection e))
    have s5 := hSw.cell Q5.out (fun e => hngm (by injection e))
    have sk := hSw.cell QK.out (fun e => hnm (by injection e))
    (try go_simp)
    (try with_reducible rfl)
  (try simp only [Act.put, List.setIfInBounds_toArray, List.set_cons_zero, List.set_cons_succ])
  refine wpAnyH_take (i := 8) (oi := ({ dst := some 53, op := Op.move (Operand.tmp 2), type := 3, pos := "values.go:28", after := #[], guard := none } : Oper)) (v := ?_) rfl (by kernel_rfl) (by kernel_rfl) (by kernel_rfl) (fun _ _ _ h => h) (Or.inl ⟨by rfl, ?_⟩) (by assumption) ?_
  rotate_left 1
  · intro v hSw
    replace hSw : X2.grownBy v (some gm) := hSw
    have s4 := hSw.cell Q4.out (fun e => hngm (by injection e))
    have s5 := hSw.cell Q5.out (fun e => hngm (by injection e))
    have sk := hSw.cell QK.out (fun e => hnm (by injection e))
    (try go_simp)
    (try with_reducible rfl)
  (try simp only [Act.put, List.setIfInBounds_toArray, List.set_cons_zero, List.set_cons_succ])
  refine wpAnyH_take (i := 9) (oi := ({ dst := some 54, op := Op.indexAddr 22 (Operand.tmp 52) (Operand.tmp 53), type := 0, pos := "values.go:28", after := #[{ on := 7, ground := Ground.data }, { on := 8, ground := Ground.data }], guard := none } : Oper)) (v := ?_) rfl (by kernel_rfl) (by kernel_rfl) (by kernel_rfl) (fun _ _ _ h => h) (Or.inl ⟨by rfl, ?_⟩) (by assumption) ?_
  rotate_left 1
  · intro v hSw
    replace hSw : X2.grownBy v (some gm) := hSw
    have s4 := hSw.cell Q4.out (fun e => hngm (by injection e))
    have s5 := hSw.cell Q5.out (fun e => hngm (by injection e))
    have sk := hSw.cell QK.out (fun e => hnm (by injection e))
    (try go_simp)
    (try with_reducible rfl)
  (try simp only [Act.put, List.setIfInBounds_toArray, List.set_cons_zero, List.set_cons_succ])
  refine wpAnyH_take (i := 10) (oi := ({ dst := some 55, op := Op.fieldAddr 64 (Operand.tmp 54) 0, type := 0, pos := "values.go:28", after := #[{ on := 9, ground := Ground.data }], guard := none } : Oper)) (v := ?_) rfl (by kernel_rfl) (by kernel_rfl) (by kernel_rfl) (fun _ _ _ h => h) (Or.inl ⟨by rfl, ?_⟩) (by assumption) ?_
  rotate_left 1
  · intro v hSw
    replace hSw : X2.grownBy v (some gm) := hSw
    have s4 := hSw.cell Q4.out (fun e => hngm (by injection e))
    have s5 := hSw.cell Q5.out (fun e => hngm (by injection e))
    have sk := hSw.cell QK.out (fun e => hnm (by injection e))
    (try go_simp)
    (try with_reducible rfl)
  (try simp only [Act.put, List.setIfInBounds_toArray, List.set_cons_zero, List.set_cons_succ])
  refine wpAnyH_take (i := 11) (oi := ({ dst := some 56, op := Op.load 2 (Operand.tmp 55), type := 2, pos := "values.go:28", after := #[{ on := 10, ground := Ground.data }], guard := none } : Oper)) (v := ?_) rfl (by kernel_rfl) (by kernel_rfl) (by kernel_rfl) (fun _ _ _ h => h) (Or.inl ⟨by rfl, ?_⟩) (by assumption) ?_
  rotate_left 1
  · intro v hSw
    replace hSw : X2.grownBy v (some gm) := hSw
    have s4 := hSw.cell Q4.out (fun e => hngm (by injection e))
    have s5 := hSw.cell Q5.out (fun e => hngm (by injection e))
    have sk := hSw.cell QK.out (fun e => hnm (by injection e))
    (try go_simp)
    (try with_reducible rfl)
  (try simp only [Act.put, List.setIfInBounds_toArray, List.set_cons_zero, List.set_cons_succ])
  refine wpAnyH_take (i := 12) (oi := ({ dst := some 57, op := Op.move (Operand.tmp 2), type := 3, pos := "values.go:28", after := #[], guard := none } : Oper)) (v := ?_) rfl (by kernel_rfl) (by kernel_rfl) (by kernel_rfl) (fun _ _ _ h => h) (Or.inl ⟨by rfl, ?_⟩) (by assumption) ?_
  rotate_left 1
  · intro v hSw
    replace hSw : X2.grownBy v (some gm) := hSw
    have s4 := hSw.cell Q4.out (fun e => hngm (by injection e))
    have s5 := hSw.cell Q5.out (fun e => hngm (by injection e))
    have sk := hSw.cell QK.out (fun e => hnm (by injection e))
    (try go_simp)
    (try with_reducible rfl)
  (try simp only [Act.put, List.setIfInBounds_toArray, List.set_cons_zero, List.set_cons_succ])
  refine wpAnyH_ready (rs := [13]) (by kernel_rfl) (by simp) ?_
  refine AllReadyH.cons (o := ({ dst := none, op := Op.mapUpdate 43 (Operand.tmp 48) (Operand.tmp 56) (Operand.tmp 57), type := 0, pos := "values.go:28", after := #[{ on := 3, ground := Ground.data }, { on := 11, ground := Ground.data }, { on := 12, ground := Ground.data }, { on := 0, ground := Ground.phase }, { on := 1, ground := Ground.phase }, { on := 2, ground := Ground.phase }, { on := 3, ground := Ground.phase }, { on := 4, ground := Ground.phase }, { on := 5, ground := Ground.phase }, { on := 6, ground := Ground.phase }, { on := 7, ground := Ground.phase }, { on := 8, ground := Ground.phase }, { on := 9, ground := Ground.phase }, { on := 10, ground := Ground.phase }, { on := 11, ground := Ground.phase }, { on := 12, ground := Ground.phase }], guard := none } : Oper)) rfl (fun K hK => ?_) (AllReadyH.nil)
  obtain ⟨Y12, hrun, hDy, hGy⟩ := hDx.update lawK Try.underlying43 (by omega) (keyOf_int_mk Try.underlying2 hwfi) (plainElem_int (H := Unit) (a := (j : Int)) Try.underlying3 (WalkArith.wf_i64 (by omega)))
  go_simp
  refine hK.out _ _ hGy (fun _ => ?_)
  clear hK K
  (try simp only [Act.put, List.setIfInBounds_toArray, List.set_cons_zero, List.set_cons_succ])
  refine wpAnyH_done (by kernel_rfl) ?_ _
  refine NoPanic.normal ?_
  have hO122 : OwnIt Y12 (.slice (some ⟨gl, 0, none⟩) m cap) (H.sw l i j) := hOx.kept (fun b hb => hGy.block b (hOx.lt b hb) (by intro e; injection e with e; have hb' : gl = b := (by simpa [Value.ownBlock] using hb); omega))
  have hR122 := (hGy.block g (Array.getElem?_eq_some_iff.1 hRx).1 (fun e => hngm (by injection e))).trans hRx
  have hK122 : Kept w Y12 g gm (.slice (some ⟨gl, 0, none⟩) m cap) := hKx.trans (v1 := .slice (some ⟨gl, 0, none⟩) m cap) ⟨hGy.os, hGy.tape, hGy.output, hGy.size, fun b hb _ h2 _ => hGy.block b hb (fun e => h2 (by injection e))⟩ (.inl rfl)
  clear hHeld hOx hRx hKx hDx Q4 Q5 QK hrun hGy
  have hD122 := hDy
  clear hDy
  go_wp2_with fail
  go_end0
  refine ⟨rfl, ⟨hR122, hO122, ⟨_, hD122, ?_⟩, hngm, HQ.out.ng, HQ.out.nm, H.sw_uniq HQ.out.uniq hi hj, fun x hx => HQ.out.wf x ((H.sw_mem hi hj x).1 hx)⟩, hK122⟩
  have hF := hS.sw HQ.out.uniq hi hj
  rw [e1, e2] at hF
  exact hF
end Go.Proofs.Ytdkfaepmgennjaa
