/- Push of the values: one more at the end. -/
import Derived.Test.YtdkfaepmgennjaaHpSwap
import Derived.Maps.AppendAt
namespace Go.Proofs.Ytdkfaepmgennjaa
open Go.RowKit Go.Maps
open H (IT)
set_option linter.unusedSimpArgs false
set_option maxRecDepth 100000
theorem info_it : (Try.prog.info? 64).map (fun i => (i.zero, i.size, i.bytes)) = some (some (.agg #[.int .i64 0, .int .i64 0]), 2, 16) := by kernel_rfl
theorem it_parts : ∃ i0, Try.prog.info? 64 = some i0 ∧ i0.zero = some (.agg #[.int .i64 0, .int .i64 0]) ∧ i0.size = 2 ∧ i0.bytes = 16 := by
  have h := info_it
  cases e : Try.prog.info? 64 with
  | none => rw [e] at h; cases h
  | some i => rw [e] at h; simp only [Option.map_some, Option.some.injEq, Prod.mk.injEq] at h; exact ⟨i, rfl, h.1, h.2.1, h.2.2⟩
theorem set_two {w : World} {g : Nat} {a b : Value} {t : TypeId} (h : w.heap[g]? = some (.cells #[a, b] t (0, 0))) (u v : Value) : ((w.setCell ⟨g, 0, none⟩ u).setCell ⟨g, 1, none⟩ v).heap[g]? = some (.cells #[u, v] t (0, 0)) := by
  have h1 := heap_setCell_same w g 0 _ t u h
  have h2 := heap_setCell_same _ g 1 _ t v h1
  exact h2
/-- A block of two cells is made and filled. -/
theorem made_two (w : World) (u v a b : Value) (t : TypeId) : ∃ W, (((w.alloc (.cells #[a, b] t)).setCell ⟨w.heap.size, 0, none⟩ u).setCell ⟨w.heap.size, 1, none⟩ v) = W ∧ Below w.heap.size w W ∧ W.heap[w.heap.size]? = some (.cells #[u, v] t (0, 0)) :=
  ⟨_, rfl, ((below_new w _).setCell (p := ⟨w.heap.size, 0, none⟩) (Nat.le_refl _) _).setCell (p := ⟨w.heap.size, 1, none⟩) (Nat.le_refl _) _, set_two (heap_alloc_new w _) u v⟩
theorem wp_push_it {o : Oper} {a : Act} {K : Act → World → Prop} {Q : Exit → Act → World → Prop} {w : World} (s x : Operand)
    (ho : o.op = .call { callee := .builtin .append, args := #[s, x], argTypes := #[22, 22] })
    (v : Value) (l : List IT) (hs : a.eval s = v) (hown : OwnIt w v l) (gx c : Nat) (p q : Int) (hx : a.eval x = .slice (some ⟨gx, 0, none⟩) 1 c) (h0 : w.cell? ⟨gx, 0, none⟩ = some (.int .i64 p)) (h1 : w.cell? ⟨gx, 1, none⟩ = some (.int .i64 q)) (hn : l.length ≤ 1000000)
    (h : ∀ v' w', OwnIt w' v' (l ++ [(p, q)]) → w.grownBy w' v.ownBlock → (v'.ownBlock = v.ownBlock ∨ v'.ownBlock = some w.heap.size) → K (a.put o.dst v') w') : o.wp Try.prog a w K Q := by
  obtain ⟨i0, hi, hz0, hz1, hz2⟩ := it_parts
  obtain ⟨v', w', hr, h2, h3, _, h5⟩ := run_append_own_at (P := Try.prog) (w := w) 0 22 o.type 64 i0 (.agg #[.int .i64 0, .int .i64 0]) 2 16 Try.underlying22 hi hz0 hz1 hz2 rfl (by decide) v l.length (itCells l) hown ⟨gx, 0, none⟩ 1 c [.int .i64 p, .int .i64 q] rfl (by
    intro j u hu
    rw [show (⟨gx, 0, none⟩ : Addr).add j = ⟨gx, j, none⟩ from by unfold Addr.add; split <;> simp_all]
    match j, hu with
    | 0, hu => simp at hu; subst hu; exact h0
    | 1, hu => simp at hu; subst hu; exact h1) (by
    intro u hu
    simp at hu
    rcases hu with rfl | rfl <;> rfl) (by unfold maxLen; omega) (by omega) (Nat.zero_le _)
  unfold Oper.wp execOp
  simp only [ho, resolve, invoke, builtin, Sem.run_bind, Sem.run_pure, Result.andThen_ok, List.map_toArray, List.map_cons, List.map_nil, hs, hx, hr]
  refine h v' w' ?_ h3 h5
  unfold OwnIt
  rw [List.length_append, itCells_append]
  exact h2
theorem made_facts {w : World} {n : Nat} {x y : Int} {t : TypeId} (r : w.heap[n]? = some (.cells #[.int .i64 x, .int .i64 y] t (0, 0))) : w.cell? ⟨n, 0, none⟩ = some (.int .i64 x) ∧ w.cell? ⟨n, 1, none⟩ = some (.int .i64 y) ∧ w.frozen? ⟨n, 0, none⟩ = false ∧ w.frozen? ⟨n, 1, none⟩ = false :=
  ⟨by rw [cell_of_row _ _ _ _ _ _ r]; rfl, by rw [cell_of_row _ _ _ _ _ _ r]; rfl, frozen_of_row _ _ _ _ _ r, frozen_of_row _ _ _ _ _ r⟩
/-- What is read of the new value while it is appended. -/
structure PS (e : Nat) (p q : Int) (v : World) : Prop where
  c0 : v.cell? ⟨e, 0, none⟩ = some (.int .i64 p)
  c1 : v.cell? ⟨e, 1, none⟩ = some (.int .i64 q)
set_option maxHeartbeats 2000000 in
theorem Push_any (n g gm N : Nat) (s v : Value) (nx : Int) (l : List IT) (p q : Int) (w : World) (hq : QAt w g gm n s nx v N l) (hp : (Lit.int .i64 p).wf = true) (hnew : ∀ y ∈ l, y.1 ≠ p) (hl : l.length ≤ 1000000) (hN : N + 1 < maxLen) :
    Calls Try.prog 40 #[.pointer (some ⟨g, 2, none⟩), .iface 64 (.agg #[.int .i64 p, .int .i64 q])] w fun e w' => e = .returned (.tuple #[]) ∧ ∃ v', QAt w' g gm n s nx v' (N + 1) (l ++ [(p, q)]) ∧ Kept w w' g gm v ∧ (v'.ownBlock = v.ownBlock ∨ ∀ k, v'.ownBlock = some k → w.heap.size ≤ k) := by
  obtain ⟨A, c, rfl⟩ : ∃ A c, v = .slice A l.length c := by
    rcases hq.own.some_ with ⟨rfl, rfl⟩ | ⟨gl, cap, rfl, -⟩
    · exact ⟨none, 0, rfl⟩
    · exact ⟨_, _, rfl⟩
  obtain ⟨m, hm⟩ : ∃ m, l.length = m := ⟨_, rfl⟩
  rw [hm] at hq hl ⊢
  have hb1 := below_new w (.cells #[.int .i64 p, .int .i64 q] 64)
  have hre := heap_alloc_new w (.cells #[.int .i64 p, .int .i64 q] 64)
  have hq1 := hq.below hb1
  have hgl : g < w.heap.size := (Array.getElem?_eq_some_iff.1 hq.row).1
  obtain ⟨D, hD, hS⟩ := hq1.map
  have hml : gm < w.heap.size := by obtain ⟨D', hD', -⟩ := hq.map; exact hD'.lt
  have hvl : ∀ k, (Value.slice A m c).ownBlock = some k → k < w.heap.size := hq.own.lt
  have hta : ∀ (u : Value) (w : World), (Instr.typeAssert (.iface 64 u) 20 64 false).run Try.prog w = .ok u w := fun _ _ => by kernel_rfl
  have hngm := hq.ngm
  go_enter Try.func40, Try.ntmps40
  go_wp2_with fail
  have hKx : Kept w ((w.alloc (.cells #[.int .i64 p, .int .i64 q] 64)).drew) g gm (.slice A m c) := (Kept.of_below hb1).drew
  have hq1' : QAt ((w.alloc (.cells #[.int .i64 p, .int .i64 q] 64)).drew) g gm n s nx (.slice A m c) N l := ⟨hq1.row, hq1.own, hq1.map, hq1.ngm, hq1.ng, hq1.nm, hq1.uniq, hq1.wf⟩
  have hD' : ((w.alloc (.cells #[.int .i64 p, .int .i64 q] 64)).drew).ownsMap Try.prog 2 (plainElem Try.prog 3) gm N D := hD
  have hre' : ((w.alloc (.cells #[.int .i64 p, .int .i64 q] 64)).drew).heap[w.heap.size]? = _ := hre
  clear hq1 hD hre hb1
  refine wp_region_noPanic ?_
  refine wp_region_held_drew (S := (fun v => ((w.alloc (.cells #[.int .i64 p, .int .i64 q] 64)).drew).grownBy v (some gm))) (by kernel_rfl) ⟨rfl, rfl, rfl, Nat.le_refl _, fun _ _ _ => rfl⟩ (fun hHeld => ?_)
  replace hHeld : ((w.alloc (.cells #[.int .i64 p, .int .i64 q] 64)).drew).grownBy ((w.alloc (.cells #[.int .i64 p, .int .i64 q] 64)).drew) (some gm) := hHeld
  generalize ((w.alloc (.cells #[.int .i64 p, .int .i64 q] 64)).drew) = X1 at hHeld hKx hq1' hD' hre' ⊢
  obtain ⟨e, he⟩ : ∃ e, w.heap.size = e := ⟨_, rfl⟩
  rw [he] at hre' ⊢
  have hem : e ≠ gm := by omega
  have Q4 := Lib.hid (show X1.cell? ⟨g, 4, none⟩ = some (.slice A m c) from by rw [cell_of_row _ _ _ _ _ _ hq1'.row]; rfl)
  have Q5 := Lib.hid (show X1.cell? ⟨g, 5, none⟩ = some (.map (some gm)) from by rw [cell_of_row _ _ _ _ _ _ hq1'.row]; rfl)
  have Q0 := Lib.hid (show X1.cell? ⟨e, 0, none⟩ = some (.int .i64 p) from by rw [cell_of_row _ _ _ _ _ _ hre']; rfl)
  refine wpAnyH_take (i := 0) (oi := ({ dst := some 7, op := Op.move (Operand.tmp 0), type := 98, pos := "values.go:34", after := #[], guard := none } : Oper)) (v := ?_) rfl (by kernel_rfl) (by kernel_rfl) (by kernel_rfl) (fun _ _ _ h => h) (Or.inl ⟨by rfl, ?_⟩) (by assumption) ?_
  rotate_left 1
  · intro v hSw
    replace hSw : X1.grownBy v (some gm) := hSw
    have s4 := hSw.cell Q4.out (fun e => hngm (by injection e))
    have s5 := hSw.cell Q5.out (fun e => hngm (by injection e))
    have s0 := hSw.cell Q0.out (fun e => hem (by injection e))
    (try go_simp)
    (try with_reducible rfl)
  (try simp only [Act.put, List.setIfInBounds_toArray, List.set_cons_zero, List.set_cons_succ])
  refine wpAnyH_take (i := 1) (oi := ({ dst := some 8, op := Op.nilCheck (Operand.tmp 7), type := 0, pos := "values.go:34", after := #[{ on := 0, ground := Ground.data }], guard := none } : Oper)) (v := ?_) rfl (by kernel_rfl) (by kernel_rfl) (by kernel_rfl) (fun _ _ _ h => h) (Or.inl ⟨by rfl, ?_⟩) (by assumption) ?_
  rotate_left 1
  · intro v hSw
    replace hSw : X1.grownBy v (some gm) := hSw
    have s4 := hSw.cell Q4.out (fun e => hngm (by injection e))
    have s5 := hSw.cell Q5.out (fun e => hngm (by injection e))
    have s0 := hSw.cell Q0.out (fun e => hem (by injection e))
    (try go_simp)
    (try with_reducible rfl)
  (try simp only [Act.put, List.setIfInBounds_toArray, List.set_cons_zero, List.set_cons_succ])
  refine wpAnyH_take (i := 2) (oi := ({ dst := some 9, op := Op.fieldAddr 45 (Operand.tmp 8) 3, type := 0, pos := "values.go:34", after := #[{ on := 1, ground := Ground.data }], guard := none } : Oper)) (v := ?_) rfl (by kernel_rfl) (by kernel_rfl) (by kernel_rfl) (fun _ _ _ h => h) (Or.inl ⟨by rfl, ?_⟩) (by assumption) ?_
  rotate_left 1
  · intro v hSw
    replace hSw : X1.grownBy v (some gm) := hSw
    have s4 := hSw.cell Q4.out (fun e => hngm (by injection e))
    have s5 := hSw.cell Q5.out (fun e => hngm (by injection e))
    have s0 := hSw.cell Q0.out (fun e => hem (by injection e))
    (try go_simp)
    (try with_reducible rfl)
  (try simp only [Act.put, List.setIfInBounds_toArray, List.set_cons_zero, List.set_cons_succ])
  refine wpAnyH_take (i := 3) (oi := ({ dst := some 10, op := Op.load 43 (Operand.tmp 9), type := 43, pos := "values.go:34", after := #[{ on := 2, ground := Ground.data }], guard := none } : Oper)) (v := ?_) rfl (by kernel_rfl) (by kernel_rfl) (by kernel_rfl) (fun _ _ _ h => h) (Or.inl ⟨by rfl, ?_⟩) (by assumption) ?_
  rotate_left 1
  · intro v hSw
    replace hSw : X1.grownBy v (some gm) := hSw
    have s4 := hSw.cell Q4.out (fun e => hngm (by injection e))
    have s5 := hSw.cell Q5.out (fun e => hngm (by injection e))
    have s0 := hSw.cell Q0.out (fun e => hem (by injection e))
    (try go_simp)
    (try with_reducible rfl)
  (try simp only [Act.put, List.setIfInBounds_toArray, List.set_cons_zero, List.set_cons_succ])
  refine wpAnyH_take (i := 4) (oi := ({ dst := some 11, op := Op.fieldAddr 64 (Operand.tmp 4) 0, type := 0, pos := "values.go:34", after := #[], guard := none } : Oper)) (v := ?_) rfl (by kernel_rfl) (by kernel_rfl) (by kernel_rfl) (fun _ _ _ h => h) (Or.inl ⟨by rfl, ?_⟩) (by assumption) ?_
  rotate_left 1
  · intro v hSw
    replace hSw : X1.grownBy v (some gm) := hSw
    have s4 := hSw.cell Q4.out (fun e => hngm (by injection e))
    have s5 := hSw.cell Q5.out (fun e => hngm (by injection e))
    have s0 := hSw.cell Q0.out (fun e => hem (by injection e))
    (try go_simp)
    (try with_reducible rfl)
  (try simp only [Act.put, List.setIfInBounds_toArray, List.set_cons_zero, List.set_cons_succ])
  refine wpAnyH_take (i := 5) (oi := ({ dst := some 12, op := Op.load 2 (Operand.tmp 11), type := 2, pos := "values.go:34", after := #[{ on := 4, ground := Ground.data }], guard := none } : Oper)) (v := ?_) rfl (by kernel_rfl) (by kernel_rfl) (by kernel_rfl) (fun _ _ _ h => h) (Or.inl ⟨by rfl, ?_⟩) (by assumption) ?_
  rotate_left 1
  · intro v hSw
    replace hSw : X1.grownBy v (some gm) := hSw
    have s4 := hSw.cell Q4.out (fun e => hngm (by injection e))
    have s5 := hSw.cell Q5.out (fun e => hngm (by injection e))
    have s0 := hSw.cell Q0.out (fun e => hem (by injection e))
    (try go_simp)
    (try with_reducible rfl)
  (try simp only [Act.put, List.setIfInBounds_toArray, List.set_cons_zero, List.set_cons_succ])
  refine wpAnyH_take (i := 6) (oi := ({ dst := some 13, op := Op.move (Operand.tmp 0), type := 98, pos := "values.go:34", after := #[], guard := none } : Oper)) (v := ?_) rfl (by kernel_rfl) (by kernel_rfl) (by kernel_rfl) (fun _ _ _ h => h) (Or.inl ⟨by rfl, ?_⟩) (by assumption) ?_
  rotate_left 1
  · intro v hSw
    replace hSw : X1.grownBy v (some gm) := hSw
    have s4 := hSw.cell Q4.out (fun e => hngm (by injection e))
    have s5 := hSw.cell Q5.out (fun e => hngm (by injection e))
    have s0 := hSw.cell Q0.out (fun e => hem (by injection e))
    (try go_simp)
    (try with_reducible rfl)
  (try simp only [Act.put, List.setIfInBounds_toArray, List.set_cons_zero, List.set_cons_succ])
  refine wpAnyH_take (i := 7) (oi := ({ dst := some 14, op := Op.nilCheck (Operand.tmp 13), type := 0, pos := "values.go:34", after := #[{ on := 6, ground := Ground.data }], guard := none } : Oper)) (v := ?_) rfl (by kernel_rfl) (by kernel_rfl) (by kernel_rfl) (fun _ _ _ h => h) (Or.inl ⟨by rfl, ?_⟩) (by assumption) ?_
  rotate_left 1
  · intro v hSw
    replace hSw : X1.grownBy v (some gm) := hSw
    have s4 := hSw.cell Q4.out (fun e => hngm (by injection e))
    have s5 := hSw.cell Q5.out (fun e => hngm (by injection e))
    have s0 := hSw.cell Q0.out (fun e => hem (by injection e))
    (try go_simp)
    (try with_reducible rfl)
  (try simp only [Act.put, List.setIfInBounds_toArray, List.set_cons_zero, List.set_cons_succ])
  refine wpAnyH_take (i := 8) (oi := ({ dst := some 15, op := Op.fieldAddr 45 (Operand.tmp 14) 2, type := 0, pos := "values.go:34", after := #[{ on := 7, ground := Ground.data }], guard := none } : Oper)) (v := ?_) rfl (by kernel_rfl) (by kernel_rfl) (by kernel_rfl) (fun _ _ _ h => h) (Or.inl ⟨by rfl, ?_⟩) (by assumption) ?_
  rotate_left 1
  · intro v hSw
    replace hSw : X1.grownBy v (some gm) := hSw
    have s4 := hSw.cell Q4.out (fun e => hngm (by injection e))
    have s5 := hSw.cell Q5.out (fun e => hngm (by injection e))
    have s0 := hSw.cell Q0.out (fun e => hem (by injection e))
    (try go_simp)
    (try with_reducible rfl)
  (try simp only [Act.put, List.setIfInBounds_toArray, List.set_cons_zero, List.set_cons_succ])
  refine wpAnyH_take (i := 9) (oi := ({ dst := some 16, op := Op.load 22 (Operand.tmp 15), type := 22, pos := "values.go:34", after := #[{ on := 8, ground := Ground.data }], guard := none } : Oper)) (v := ?_) rfl (by kernel_rfl) (by kernel_rfl) (by kernel_rfl) (fun _ _ _ h => h) (Or.inl ⟨by rfl, ?_⟩) (by assumption) ?_
  rotate_left 1
  · intro v hSw
    replace hSw : X1.grownBy v (some gm) := hSw
    have s4 := hSw.cell Q4.out (fun e => hngm (by injection e))
    have s5 := hSw.cell Q5.out (fun e => hngm (by injection e))
    have s0 := hSw.cell Q0.out (fun e => hem (by injection e))
    (try go_simp)
    (try with_reducible rfl)
  (try simp only [Act.put, List.setIfInBounds_toArray, List.set_cons_zero, List.set_cons_succ])
  refine wpAnyH_take (i := 10) (oi := ({ dst := some 17, op := Op.call { callee := Callee.builtin Builtin.len, args := #[Operand.tmp 16], argTypes := #[22] }, type := 3, pos := "values.go:34", after := #[{ on := 9, ground := Ground.data }], guard := none } : Oper)) (v := ?_) rfl (by kernel_rfl) (by kernel_rfl) (by kernel_rfl) (fun _ _ _ h => h) (Or.inl ⟨by rfl, ?_⟩) (by assumption) ?_
  rotate_left 1
  · intro v hSw
    replace hSw : X1.grownBy v (some gm) := hSw
    have s4 := hSw.cell Q4.out (fun e => hngm (by injection e))
    have s5 := hSw.cell Q5.out (fun e => hngm (by injection e))
    have s0 := hSw.cell Q0.out (fun e => hem (by injection e))
    (try go_simp)
    (try with_reducible rfl)
  (try simp only [Act.put, List.setIfInBounds_toArray, List.set_cons_zero, List.set_cons_succ])
  refine wpAnyH_ready (rs := [11]) (by kernel_rfl) (by simp) ?_
  refine AllReadyH.cons (o := ({ dst := none, op := Op.mapUpdate 43 (Operand.tmp 10) (Operand.tmp 12) (Operand.tmp 17), type := 0, pos := "values.go:34", after := #[{ on := 3, ground := Ground.data }, { on := 5, ground := Ground.data }, { on := 10, ground := Ground.data }, { on := 0, ground := Ground.phase }, { on := 1, ground := Ground.phase }, { on := 2, ground := Ground.phase }, { on := 3, ground := Ground.phase }, { on := 4, ground := Ground.phase }, { on := 5, ground := Ground.phase }, { on := 6, ground := Ground.phase }, { on := 7, ground := Ground.phase }, { on := 8, ground := Ground.phase }, { on := 9, ground := Ground.phase }, { on := 10, ground := Ground.phase }], guard := none } : Oper)) rfl (fun K hK => ?_) (AllReadyH.nil)
  obtain ⟨Y1, hrun, hDy, hGy⟩ := hD'.update lawK Try.underlying43 (by omega) (keyOf_int_mk Try.underlying2 hp) (plainElem_int (H := Unit) (a := (m : Int)) Try.underlying3 (WalkArith.wf_i64 (by omega)))
  go_simp
  refine hK.out _ _ hGy (fun _ => ?_)
  clear hK K
  (try simp only [Act.put, List.setIfInBounds_toArray, List.set_cons_zero, List.set_cons_succ])
  refine wpAnyH_done (by kernel_rfl) ?_ _
  refine NoPanic.normal ?_
  have hKy := hKx.trans (v1 := .slice A m c) (Kept.gm_ hGy) (.inl rfl)
  have hRy := (hGy.block g (Array.getElem?_eq_some_iff.1 hq1'.row).1 (fun e => hngm (by injection e))).trans hq1'.row
  have hOy : OwnIt Y1 (.slice A m c) l := hq1'.own.kept (fun b hb => hGy.block b (hq1'.own.lt b hb) (fun e => hq1'.nm (by rw [hb]; exact e)))
  have hey := (hGy.block e (Array.getElem?_eq_some_iff.1 hre').1 (fun e' => hem (by injection e'))).trans hre'
  have hSy := hS.push (x := (p, q)) hnew
  rw [hm] at hSy
  clear hHeld Q4 Q5 Q0 hrun hGy hD' hre' hKx hS
  go_wp2_with fail
  have hKx : Kept w Y1.drew g gm (.slice A m c) := hKy.drew
  have hRx : Y1.drew.heap[g]? = _ := hRy
  have hOx : OwnIt Y1.drew (.slice A m c) l := hOy
  have hex : Y1.drew.heap[e]? = _ := hey
  have hDx : Y1.drew.ownsMap _ _ _ _ _ _ := hDy
  have hPS : PS e p q Y1.drew := ⟨by rw [cell_of_row _ _ _ _ _ _ hex]; rfl, by rw [cell_of_row _ _ _ _ _ _ hex]; rfl⟩
  refine wp_region_noPanic ?_
  refine wp_region_held_drew (S := (PS e p q)) (by kernel_rfl) hPS (fun hHeld => ?_)
  generalize Y1.drew = X2 at hHeld hPS hKx hRx hOx hex hDx ⊢
  have q4 : X2.cell? ⟨g, 4, none⟩ = some (.slice A m c) := by rw [cell_of_row _ _ _ _ _ _ hRx]; rfl
  refine wpAnyH_take (i := 0) (oi := ({ dst := some 18, op := Op.move (Operand.tmp 0), type := 98, pos := "values.go:35", after := #[], guard := none } : Oper)) (v := ?_) rfl (by kernel_rfl) (by kernel_rfl) (by kernel_rfl) (fun _ _ _ h => h) (Or.inl ⟨by rfl, ?_⟩) (by assumption) ?_
  rotate_left 1
  · intro v hSw
    have s0 := hSw.c0
    have s1 := hSw.c1
    (try go_simp)
    (try with_reducible rfl)
  (try simp only [Act.put, List.setIfInBounds_toArray, List.set_cons_zero, List.set_cons_succ])
  refine wpAnyH_take (i := 1) (oi := ({ dst := some 19, op := Op.move (Operand.tmp 0), type := 98, pos := "values.go:35", after := #[], guard := none } : Oper)) (v := ?_) rfl (by kernel_rfl) (by kernel_rfl) (by kernel_rfl) (fun _ _ _ h => h) (Or.inl ⟨by rfl, ?_⟩) (by assumption) ?_
  rotate_left 1
  · intro v hSw
    have s0 := hSw.c0
    have s1 := hSw.c1
    (try go_simp)
    (try with_reducible rfl)
  (try simp only [Act.put, List.setIfInBounds_toArray, List.set_cons_zero, List.set_cons_succ])
  refine wpAnyH_take (i := 2) (oi := ({ dst := some 20, op := Op.nilCheck (Operand.tmp 19), type := 0, pos := "values.go:35", after := #[{ on := 1, ground := Ground.data }], guard := none } : Oper)) (v := ?_) rfl (by kernel_rfl) (by kernel_rfl) (by kernel_rfl) (fun _ _ _ h => h) (Or.inl ⟨by rfl, ?_⟩) (by assumption) ?_
  rotate_left 1
  · intro v hSw
    have s0 := hSw.c0
    have s1 := hSw.c1
    (try go_simp)
    (try with_reducible rfl)
  (try simp only [Act.put, List.setIfInBounds_toArray, List.set_cons_zero, List.set_cons_succ])
  refine wpAnyH_take (i := 3) (oi := ({ dst := some 21, op := Op.fieldAddr 45 (Operand.tmp 20) 2, type := 0, pos := "values.go:35", after := #[{ on := 2, ground := Ground.data }], guard := none } : Oper)) (v := ?_) rfl (by kernel_rfl) (by kernel_rfl) (by kernel_rfl) (fun _ _ _ h => h) (Or.inl ⟨by rfl, ?_⟩) (by assumption) ?_
  rotate_left 1
  · intro v hSw
    have s0 := hSw.c0
    have s1 := hSw.c1
    (try go_simp)
    (try with_reducible rfl)
  (try simp only [Act.put, List.setIfInBounds_toArray, List.set_cons_zero, List.set_cons_succ])
  refine wpAnyH_take (i := 5) (oi := ({ dst := some 23, op := Op.load 64 (Operand.tmp 4), type := 64, pos := "values.go:35", after := #[], guard := none } : Oper)) (v := ?_) rfl (by kernel_rfl) (by kernel_rfl) (by kernel_rfl) (fun _ _ _ h => h) (Or.inl ⟨by rfl, ?_⟩) (by assumption) ?_
  rotate_left 1
  · intro v hSw
    have s0 := hSw.c0
    have s1 := hSw.c1
    (try go_simp)
    (try with_reducible rfl)
  (try simp only [Act.put, List.setIfInBounds_toArray, List.set_cons_zero, List.set_cons_succ])
  refine wpAnyH_ready (rs := [4, 6]) (by kernel_rfl) (by simp) ?_
  refine AllReadyH.cons (o := ({ dst := some 22, op := Op.load 22 (Operand.tmp 21), type := 22, pos := "values.go:35", after := #[{ on := 3, ground := Ground.data }], guard := none } : Oper)) rfl (fun K hK => ?_) (AllReadyH.cons (o := ({ dst := some 24, op := Op.buildSlice 22 1 #[(0, Operand.tmp 23)], type := 22, pos := "values.go:35", after := #[{ on := 5, ground := Ground.data }], guard := none } : Oper)) rfl (fun K hK => ?_) (AllReadyH.nil))
  · skip
    go_simp
    refine hK.out _ _ hPS (fun _ => ?_)
    clear hK K
    (try simp only [Act.put, List.setIfInBounds_toArray, List.set_cons_zero, List.set_cons_succ])
    refine wpAnyH_ready (rs := [6]) (by kernel_rfl) (by simp) ?_
    refine AllReadyH.cons (o := ({ dst := some 24, op := Op.buildSlice 22 1 #[(0, Operand.tmp 23)], type := 22, pos := "values.go:35", after := #[{ on := 5, ground := Ground.data }], guard := none } : Oper)) rfl (fun K hK => ?_) (AllReadyH.nil)
    go_simp
    have hb3 := below_new X2 (.cells #[.int .i64 p, .int .i64 q] 64)
    have hr3 := heap_alloc_new X2 (.cells #[.int .i64 p, .int .i64 q] 64)
    generalize (X2.alloc (.cells #[.int .i64 p, .int .i64 q] 64)) = X3 at hb3 hr3 ⊢
    have hP3 : PS e p q X3 := ⟨by rw [cell_of_row _ _ _ _ _ _ ((hb3.block e (Array.getElem?_eq_some_iff.1 hex).1).trans hex)]; rfl, by rw [cell_of_row _ _ _ _ _ _ ((hb3.block e (Array.getElem?_eq_some_iff.1 hex).1).trans hex)]; rfl⟩
    refine hK.out _ _ hP3 (fun _ => ?_)
    clear hK K
    (try simp only [Act.put, List.setIfInBounds_toArray, List.set_cons_zero, List.set_cons_succ])
    refine wpAnyH_ready (rs := [7]) (by kernel_rfl) (by simp) ?_
    refine AllReadyH.cons (o := ({ dst := some 25, op := Op.call { callee := Callee.builtin Builtin.append, args := #[Operand.tmp 22, Operand.tmp 24], argTypes := #[22, 22] }, type := 22, pos := "values.go:35", after := #[{ on := 4, ground := Ground.data }, { on := 6, ground := Ground.data }], guard := none } : Oper)) rfl (fun K hK => ?_) (AllReadyH.nil)
    have hO3 := hOx.below hb3
    obtain ⟨n0, n1, -, -⟩ := made_facts hr3
    refine wp_push_it _ _ rfl (.slice A m c) l rfl hO3 X2.heap.size 1 p q rfl n0 n1 (by omega) ?_
    intro v' X4 hO4 hG4 hor
    obtain ⟨A', m', c', rfl⟩ : ∃ A' m' c', v' = .slice A' m' c' := by
      rcases hO4.some_ with ⟨_, h0⟩ | ⟨gl', cap', h0, -⟩
      · simp at h0
      · exact ⟨_, _, _, h0⟩
    have hne : ∀ k, k = g ∨ k = gm ∨ k = e → some k ≠ (Value.slice A m c).ownBlock := fun k hk e' => by
      rcases hk with rfl | rfl | rfl
      · exact hq.ng e'.symm
      · exact hq.nm e'.symm
      · have := hvl _ e'.symm; omega
    have hR4 := (hG4.block g (Nat.lt_of_lt_of_le (Array.getElem?_eq_some_iff.1 hRx).1 hb3.size) (hne g (.inl rfl))).trans ((hb3.block g (Array.getElem?_eq_some_iff.1 hRx).1).trans hRx)
    have he4 := (hG4.block e (Nat.lt_of_lt_of_le (Array.getElem?_eq_some_iff.1 hex).1 hb3.size) (hne e (.inr (.inr rfl)))).trans ((hb3.block e (Array.getElem?_eq_some_iff.1 hex).1).trans hex)
    have hP4 : PS e p q X4 := ⟨by rw [cell_of_row _ _ _ _ _ _ he4]; rfl, by rw [cell_of_row _ _ _ _ _ _ he4]; rfl⟩
    refine hK.out _ _ hP4 (fun _ => ?_)
    clear hK K
    (try simp only [Act.put, List.setIfInBounds_toArray, List.set_cons_zero, List.set_cons_succ])
    refine wpAnyH_take (i := 8) (oi := ({ dst := some 26, op := Op.nilCheck (Operand.tmp 18), type := 0, pos := "values.go:35", after := #[{ on := 0, ground := Ground.data }, { on := 0, ground := Ground.phase }, { on := 1, ground := Ground.phase }, { on := 2, ground := Ground.phase }, { on := 3, ground := Ground.phase }, { on := 4, ground := Ground.phase }, { on := 5, ground := Ground.phase }, { on := 6, ground := Ground.phase }, { on := 7, ground := Ground.phase }], guard := none } : Oper)) (v := ?_) rfl (by kernel_rfl) (by kernel_rfl) (by kernel_rfl) (fun _ _ _ h => h) (Or.inl ⟨by rfl, ?_⟩) (by assumption) ?_
    rotate_left 1
    · intro v hSw
      (try go_simp)
      (try with_reducible rfl)
    (try simp only [Act.put, List.setIfInBounds_toArray, List.set_cons_zero, List.set_cons_succ])
    refine wpAnyH_take (i := 9) (oi := ({ dst := some 27, op := Op.fieldAddr 45 (Operand.tmp 26) 2, type := 0, pos := "values.go:35", after := #[{ on := 8, ground := Ground.data }, { on := 0, ground := Ground.phase }, { on := 1, ground := Ground.phase }, { on := 2, ground := Ground.phase }, { on := 3, ground := Ground.phase }, { on := 4, ground := Ground.phase }, { on := 5, ground := Ground.phase }, { on := 6, ground := Ground.phase }, { on := 7, ground := Ground.phase }], guard := none } : Oper)) (v := ?_) rfl (by kernel_rfl) (by kernel_rfl) (by kernel_rfl) (fun _ _ _ h => h) (Or.inl ⟨by rfl, ?_⟩) (by assumption) ?_
    rotate_left 1
    · intro v hSw
      (try go_simp)
      (try with_reducible rfl)
    (try simp only [Act.put, List.setIfInBounds_toArray, List.set_cons_zero, List.set_cons_succ])
    refine wpAnyH_ready (rs := [10]) (by kernel_rfl) (by simp) ?_
    refine AllReadyH.cons (o := ({ dst := none, op := Op.store 22 (Operand.tmp 27) (Operand.tmp 25), type := 0, pos := "values.go:35", after := #[{ on := 9, ground := Ground.data }, { on := 7, ground := Ground.data }, { on := 7, ground := Ground.chain }, { on := 0, ground := Ground.phase }, { on := 1, ground := Ground.phase }, { on := 2, ground := Ground.phase }, { on := 3, ground := Ground.phase }, { on := 4, ground := Ground.phase }, { on := 5, ground := Ground.phase }, { on := 6, ground := Ground.phase }, { on := 7, ground := Ground.phase }], guard := none } : Oper)) rfl (fun K hK => ?_) (AllReadyH.nil)
    have t4 : X4.cell? ⟨g, 4, none⟩ = some (.slice A m c) := by rw [cell_of_row _ _ _ _ _ _ hR4]; rfl
    have z4 : X4.frozen? ⟨g, 4, none⟩ = false := frozen_of_row _ _ _ _ _ hR4
    go_simp
    have hR5 := heap_setCell_same X4 g 4 _ _ (.slice A' m' c') hR4
    have he5 := (heap_setCell_other X4 ⟨g, 4, none⟩ e (.slice A' m' c') (by show e ≠ g; omega)).trans he4
    have hP5 : PS e p q (X4.setCell ⟨g, 4, none⟩ (.slice A' m' c')) := ⟨by rw [cell_of_row _ _ _ _ _ _ he5]; rfl, by rw [cell_of_row _ _ _ _ _ _ he5]; rfl⟩
    refine hK.out _ _ hP5 (fun _ => ?_)
    clear hK K
    (try simp only [Act.put, List.setIfInBounds_toArray, List.set_cons_zero, List.set_cons_succ])
    refine wpAnyH_done (by kernel_rfl) ?_ _
    refine NoPanic.normal ?_
    have hvb : (Value.slice A' m' c').ownBlock = (Value.slice A m c).ownBlock ∨ ∀ k, (Value.slice A' m' c').ownBlock = some k → e ≤ k := hor.imp id (fun h k hk => by rw [h] at hk; injection hk with hk; have := hKx.size; have := hb3.size; omega)
    have hvg : (Value.slice A' m' c').ownBlock ≠ some g := fun h => by
      rcases hvb with h2 | h2
      · exact hq.ng (h2 ▸ h)
      · have := h2 _ h; omega
    have hvm : (Value.slice A' m' c').ownBlock ≠ some gm := fun h => by
      rcases hvb with h2 | h2
      · exact hq.nm (h2 ▸ h)
      · have := h2 _ h; omega
    have hD5 : (X4.setCell ⟨g, 4, none⟩ (.slice A' m' c')).ownsMap Try.prog 2 (plainElem Try.prog 3) gm (N + 1) _ := ((hDx.kept (row := none) ⟨hb3.os, hb3.tape, hb3.output, hb3.size, fun k hk _ => hb3.block k hk⟩ (by simp)).kept hG4 (hne gm (.inr (.inl rfl)))).kept (row := some g) (gset ⟨rfl, rfl, rfl, Nat.le_refl _, fun _ _ _ => rfl⟩ 4 (.slice A' m' c')) (fun e' => hngm (by injection e' with e'; exact e'.symm))
    have hK5 := ((hKx.trans (v1 := .slice A m c) (Kept.of_below hb3) (.inl rfl)).trans (v1 := .slice A m c) (Kept.own_ hG4) (.inl rfl)).trans (v1 := .slice A m c) (Kept.set_ X4 g gm 4 (.slice A m c) (.slice A' m' c')) (.inl rfl)
    have hO5 : OwnIt (X4.setCell ⟨g, 4, none⟩ (.slice A' m' c')) (.slice A' m' c') (l ++ [(p, q)]) := hO4.kept (fun b hb => heap_setCell_other _ _ _ _ (fun e' => hvg (by rw [hb, e'])))
    clear hHeld hPS hP4 hP5 q4 t4 z4
    go_wp2_with fail
    go_end0
    exact ⟨rfl, .slice A' m' c', ⟨hR5, hO5, ⟨_, hD5, hSy⟩, hngm, hvg, hvm, H.uniq_push hq.uniq hnew, fun x hx => by
      rcases List.mem_append.1 hx with h | h
      · exact hq.wf x h
      · rw [List.mem_singleton.1 h]; exact hp⟩, hK5, by rw [he]; exact hvb⟩
  · skip
    go_simp
    have hb3 := below_new X2 (.cells #[.int .i64 p, .int .i64 q] 64)
    have hr3 := heap_alloc_new X2 (.cells #[.int .i64 p, .int .i64 q] 64)
    generalize (X2.alloc (.cells #[.int .i64 p, .int .i64 q] 64)) = X3 at hb3 hr3 ⊢
    have hP3 : PS e p q X3 := ⟨by rw [cell_of_row _ _ _ _ _ _ ((hb3.block e (Array.getElem?_eq_some_iff.1 hex).1).trans hex)]; rfl, by rw [cell_of_row _ _ _ _ _ _ ((hb3.block e (Array.getElem?_eq_some_iff.1 hex).1).trans hex)]; rfl⟩
    refine hK.out _ _ hP3 (fun _ => ?_)
    clear hK K
    (try simp only [Act.put, List.setIfInBounds_toArray, List.set_cons_zero, List.set_cons_succ])
    refine wpAnyH_ready (rs := [4]) (by kernel_rfl) (by simp) ?_
    refine AllReadyH.cons (o := ({ dst := some 22, op := Op.load 22 (Operand.tmp 21), type := 22, pos := "values.go:35", after := #[{ on := 3, ground := Ground.data }], guard := none } : Oper)) rfl (fun K hK => ?_) (AllReadyH.nil)
    have q5 : X3.cell? ⟨g, 4, none⟩ = some (.slice A m c) := by rw [cell_of_row _ _ _ _ _ _ ((hb3.block g (Array.getElem?_eq_some_iff.1 hRx).1).trans hRx)]; rfl
    go_simp
    refine hK.out _ _ hP3 (fun _ => ?_)
    clear hK K
    (try simp only [Act.put, List.setIfInBounds_toArray, List.set_cons_zero, List.set_cons_succ])
    refine wpAnyH_ready (rs := [7]) (by kernel_rfl) (by simp) ?_
    refine AllReadyH.cons (o := ({ dst := some 25, op := Op.call { callee := Callee.builtin Builtin.append, args := #[Operand.tmp 22, Operand.tmp 24], argTypes := #[22, 22] }, type := 22, pos := "values.go:35", after := #[{ on := 4, ground := Ground.data }, { on := 6, ground := Ground.data }], guard := none } : Oper)) rfl (fun K hK => ?_) (AllReadyH.nil)
    have hO3 := hOx.below hb3
    obtain ⟨n0, n1, -, -⟩ := made_facts hr3
    refine wp_push_it _ _ rfl (.slice A m c) l rfl hO3 X2.heap.size 1 p q rfl n0 n1 (by omega) ?_
    intro v' X4 hO4 hG4 hor
    obtain ⟨A', m', c', rfl⟩ : ∃ A' m' c', v' = .slice A' m' c' := by
      rcases hO4.some_ with ⟨_, h0⟩ | ⟨gl', cap', h0, -⟩
      · simp at h0
      · exact ⟨_, _, _, h0⟩
    have hne : ∀ k, k = g ∨ k = gm ∨ k = e → some k ≠ (Value.slice A m c).ownBlock := fun k hk e' => by
      rcases hk with rfl | rfl | rfl
      · exact hq.ng e'.symm
      · exact hq.nm e'.symm
      · have := hvl _ e'.symm; omega
    have hR4 := (hG4.block g (Nat.lt_of_lt_of_le (Array.getElem?_eq_some_iff.1 hRx).1 hb3.size) (hne g (.inl rfl))).trans ((hb3.block g (Array.getElem?_eq_some_iff.1 hRx).1).trans hRx)
    have he4 := (hG4.block e (Nat.lt_of_lt_of_le (Array.getElem?_eq_some_iff.1 hex).1 hb3.size) (hne e (.inr (.inr rfl)))).trans ((hb3.block e (Array.getElem?_eq_some_iff.1 hex).1).trans hex)
    have hP4 : PS e p q X4 := ⟨by rw [cell_of_row _ _ _ _ _ _ he4]; rfl, by rw [cell_of_row _ _ _ _ _ _ he4]; rfl⟩
    refine hK.out _ _ hP4 (fun _ => ?_)
    clear hK K
    (try simp only [Act.put, List.setIfInBounds_toArray, List.set_cons_zero, List.set_cons_succ])
    refine wpAnyH_take (i := 8) (oi := ({ dst := some 26, op := Op.nilCheck (Operand.tmp 18), type := 0, pos := "values.go:35", after := #[{ on := 0, ground := Ground.data }, { on := 0, ground := Ground.phase }, { on := 1, ground := Ground.phase }, { on := 2, ground := Ground.phase }, { on := 3, ground := Ground.phase }, { on := 4, ground := Ground.phase }, { on := 5, ground := Ground.phase }, { on := 6, ground := Ground.phase }, { on := 7, ground := Ground.phase }], guard := none } : Oper)) (v := ?_) rfl (by kernel_rfl) (by kernel_rfl) (by kernel_rfl) (fun _ _ _ h => h) (Or.inl ⟨by rfl, ?_⟩) (by assumption) ?_
    rotate_left 1
    · intro v hSw
      (try go_simp)
      (try with_reducible rfl)
    (try simp only [Act.put, List.setIfInBounds_toArray, List.set_cons_zero, List.set_cons_succ])
    refine wpAnyH_take (i := 9) (oi := ({ dst := some 27, op := Op.fieldAddr 45 (Operand.tmp 26) 2, type := 0, pos := "values.go:35", after := #[{ on := 8, ground := Ground.data }, { on := 0, ground := Ground.phase }, { on := 1, ground := Ground.phase }, { on := 2, ground := Ground.phase }, { on := 3, ground := Ground.phase }, { on := 4, ground := Ground.phase }, { on := 5, ground := Ground.phase }, { on := 6, ground := Ground.phase }, { on := 7, ground := Ground.phase }], guard := none } : Oper)) (v := ?_) rfl (by kernel_rfl) (by kernel_rfl) (by kernel_rfl) (fun _ _ _ h => h) (Or.inl ⟨by rfl, ?_⟩) (by assumption) ?_
    rotate_left 1
    · intro v hSw
      (try go_simp)
      (try with_reducible rfl)
    (try simp only [Act.put, List.setIfInBounds_toArray, List.set_cons_zero, List.set_cons_succ])
    refine wpAnyH_ready (rs := [10]) (by kernel_rfl) (by simp) ?_
    refine AllReadyH.cons (o := ({ dst := none, op := Op.store 22 (Operand.tmp 27) (Operand.tmp 25), type := 0, pos := "values.go:35", after := #[{ on := 9, ground := Ground.data }, { on := 7, ground := Ground.data }, { on := 7, ground := Ground.chain }, { on := 0, ground := Ground.phase }, { on := 1, ground := Ground.phase }, { on := 2, ground := Ground.phase }, { on := 3, ground := Ground.phase }, { on := 4, ground := Ground.phase }, { on := 5, ground := Ground.phase }, { on := 6, ground := Ground.phase }, { on := 7, ground := Ground.phase }], guard := none } : Oper)) rfl (fun K hK => ?_) (AllReadyH.nil)
    have t4 : X4.cell? ⟨g, 4, none⟩ = some (.slice A m c) := by rw [cell_of_row _ _ _ _ _ _ hR4]; rfl
    have z4 : X4.frozen? ⟨g, 4, none⟩ = false := frozen_of_row _ _ _ _ _ hR4
    go_simp
    have hR5 := heap_setCell_same X4 g 4 _ _ (.slice A' m' c') hR4
    have he5 := (heap_setCell_other X4 ⟨g, 4, none⟩ e (.slice A' m' c') (by show e ≠ g; omega)).trans he4
    have hP5 : PS e p q (X4.setCell ⟨g, 4, none⟩ (.slice A' m' c')) := ⟨by rw [cell_of_row _ _ _ _ _ _ he5]; rfl, by rw [cell_of_row _ _ _ _ _ _ he5]; rfl⟩
    refine hK.out _ _ hP5 (fun _ => ?_)
    clear hK K
    (try simp only [Act.put, List.setIfInBounds_toArray, List.set_cons_zero, List.set_cons_succ])
    refine wpAnyH_done (by kernel_rfl) ?_ _
    refine NoPanic.normal ?_
    have hvb : (Value.slice A' m' c').ownBlock = (Value.slice A m c).ownBlock ∨ ∀ k, (Value.slice A' m' c').ownBlock = some k → e ≤ k := hor.imp id (fun h k hk => by rw [h] at hk; injection hk with hk; have := hKx.size; have := hb3.size; omega)
    have hvg : (Value.slice A' m' c').ownBlock ≠ some g := fun h => by
      rcases hvb with h2 | h2
      · exact hq.ng (h2 ▸ h)
      · have := h2 _ h; omega
    have hvm : (Value.slice A' m' c').ownBlock ≠ some gm := fun h => by
      rcases hvb with h2 | h2
      · exact hq.nm (h2 ▸ h)
      · have := h2 _ h; omega
    have hD5 : (X4.setCell ⟨g, 4, none⟩ (.slice A' m' c')).ownsMap Try.prog 2 (plainElem Try.prog 3) gm (N + 1) _ := ((hDx.kept (row := none) ⟨hb3.os, hb3.tape, hb3.output, hb3.size, fun k hk _ => hb3.block k hk⟩ (by simp)).kept hG4 (hne gm (.inr (.inl rfl)))).kept (row := some g) (gset ⟨rfl, rfl, rfl, Nat.le_refl _, fun _ _ _ => rfl⟩ 4 (.slice A' m' c')) (fun e' => hngm (by injection e' with e'; exact e'.symm))
    have hK5 := ((hKx.trans (v1 := .slice A m c) (Kept.of_below hb3) (.inl rfl)).trans (v1 := .slice A m c) (Kept.own_ hG4) (.inl rfl)).trans (v1 := .slice A m c) (Kept.set_ X4 g gm 4 (.slice A m c) (.slice A' m' c')) (.inl rfl)
    have hO5 : OwnIt (X4.setCell ⟨g, 4, none⟩ (.slice A' m' c')) (.slice A' m' c') (l ++ [(p, q)]) := hO4.kept (fun b hb => heap_setCell_other _ _ _ _ (fun e' => hvg (by rw [hb, e'])))
    clear hHeld hPS hP4 hP5 q4 t4 z4
    go_wp2_with fail
    go_end0
    exact ⟨rfl, .slice A' m' c', ⟨hR5, hO5, ⟨_, hD5, hSy⟩, hngm, hvg, hvm, H.uniq_push hq.uniq hnew, fun x hx => by
      rcases List.mem_append.1 hx with h | h
      · exact hq.wf x h
      · rw [List.mem_singleton.1 h]; exact hp⟩, hK5, by rw [he]; exact hvb⟩
end Go.Proofs.Ytdkfaepmgennjaa
