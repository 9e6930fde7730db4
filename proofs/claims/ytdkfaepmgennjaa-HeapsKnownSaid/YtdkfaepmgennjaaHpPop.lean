/- Pop of the values: the last one is taken away; Len. -/
import Derived.Test.YtdkfaepmgennjaaHpPush
namespace Go.Proofs.Ytdkfaepmgennjaa
open Go.RowKit Go.Maps
open H (IT)
set_option linter.unusedSimpArgs false
set_option maxRecDepth 100000
theorem OwnIt.cut {w : World} {gl cap m : Nat} {l l1 : List IT} (h : OwnIt w (.slice (some ⟨gl, 0, none⟩) m cap) (l ++ l1)) : OwnIt w (.slice (some ⟨gl, 0, none⟩) l.length cap) l := by
  rcases h.2 with ⟨e0, _⟩ | ⟨g', cap', cur, e0, hb, hg, h1, h2, h3, h4⟩
  · cases e0
  · injection e0 with e1 e2 e3
    injection e1 with e1
    injection e1 with e1
    subst e1 e3
    refine ⟨itCells_len l, .inr ⟨gl, cap, cur, rfl, hb, hg, by rw [List.length_append] at h1; omega, h2, h3, ?_⟩⟩
    have := congrArg (List.take (l.length * 2)) h4
    rw [List.take_take, Nat.min_eq_left (by rw [List.length_append]; omega), itCells_append, List.take_left' (itCells_len l)] at this
    exact this
theorem VLen_any (n g gm N m c : Nat) (A : Option Addr) (s : Value) (nx : Int) (l : List IT) (w : World) (hq : QAt w g gm n s nx (.slice A m c) N l) :
    Calls Try.prog 50 #[.pointer (some ⟨g, 2, none⟩)] w fun e w' => e = .returned (.int .i64 m) ∧ w = w' := by
  have c4 : w.cell? ⟨g, 4, none⟩ = some (.slice A m c) := by rw [cell_of_row _ _ _ _ _ _ hq.row]; rfl
  clear hq
  go_enter Try.func50, Try.ntmps50
  go_wp2_with fail
  go_ret
  exact ⟨rfl, rfl⟩
set_option maxHeartbeats 2000000 in
theorem VPop_any (n g gm N gl cap m : Nat) (s : Value) (nx : Int) (l : List IT) (p q : Int) (w : World) (hq : QAt w g gm n s nx (.slice (some ⟨gl, 0, none⟩) (m + 1) cap) N (l ++ [(p, q)])) (hm : l.length = m) (h5 : m ≤ 1000000) :
    Calls Try.prog 118 #[.pointer (some ⟨g, 2, none⟩)] w fun e w' => e = .returned (.iface 64 (.agg #[.int .i64 p, .int .i64 q])) ∧ QAt w' g gm n s nx (.slice (some ⟨gl, 0, none⟩) m cap) N l ∧ Kept w w' g gm (.slice (some ⟨gl, 0, none⟩) (m + 1) cap) := by
  have hb1 := below_new w (.cells #[.int .i64 p, .int .i64 q] 64)
  have hre := heap_alloc_new w (.cells #[.int .i64 p, .int .i64 q] 64)
  have hq1 := hq.below hb1
  have hgl : g < w.heap.size := (Array.getElem?_eq_some_iff.1 hq.row).1
  have hll : gl < w.heap.size := hq.own.lt gl rfl
  have hcap : m + 1 ≤ cap ∧ cap ≤ maxLen := by
    rcases hq.own.some_ with ⟨h0, _⟩ | ⟨g', c', h0, h1, h2, -⟩
    · cases h0
    · injection h0 with e1 e2 e3
      subst e3
      rw [← e2] at h1
      exact ⟨h1, h2⟩
  have hcm := hcap.2
  unfold maxLen at hcm
  have hml : gm < w.heap.size := by obtain ⟨D', hD', -⟩ := hq.map; exact hD'.lt
  have hng : gl ≠ g := fun e => hq.ng (by rw [e]; rfl)
  have hnm : gl ≠ gm := fun e => hq.nm (by rw [e]; rfl)
  have hlast : (l ++ [(p, q)])[m]'(by simp [hm]) = (p, q) := by subst hm; simp
  obtain ⟨-, i0, i1⟩ := hq.own.at_ (k := m) (by simp [hm])
  obtain ⟨-, j0, j1⟩ := hq1.own.at_ (k := m) (by simp [hm])
  rw [hlast] at i0 i1 j0 j1
  have c4 : w.cell? ⟨g, 4, none⟩ = some (.slice (some ⟨gl, 0, none⟩) (m + 1) cap) := by rw [cell_of_row _ _ _ _ _ _ hq.row]; rfl
  have d4 : (w.alloc (.cells #[.int .i64 p, .int .i64 q] 64)).cell? ⟨g, 4, none⟩ = some (.slice (some ⟨gl, 0, none⟩) (m + 1) cap) := by rw [cell_of_row _ _ _ _ _ _ hq1.row]; rfl
  have f0 := hq.own.frozen (m * 2)
  have f1 := hq.own.frozen (m * 2 + 1)
  have f4 : w.frozen? ⟨g, 4, none⟩ = false := frozen_of_row _ _ _ _ _ hq.row
  have hng' : ¬ g = gl := fun e => hng e.symm
  have k1 : (m : Int) < (m : Int) + 1 := by omega
  have k2 : (0 : Int) ≤ (m : Int) := by omega
  have k3 : (m : Int) ≤ (cap : Int) := by omega
  have k4 : ((m : Int) + 1 - 1) = (m : Int) := by omega
  have HQ := Lib.hid hq
  have HQ1 := Lib.hid hq1
  clear hq hq1
  go_enter Try.func118, Try.ntmps118
  go_wp2_with fail
  have hR1 : ((w.setCell ⟨gl, m * 2, none⟩ (.int .i64 0)).setCell ⟨gl, m * 2 + 1, none⟩ (.int .i64 0)).heap[g]? = _ := (heap_setCell_other _ _ _ _ hng').trans ((heap_setCell_other _ _ _ _ hng').trans HQ.out.row)
  have hO1 := HQ.out.own.set_ m 0 0
  have hset : (l ++ [(p, q)]).set m (0, 0) = l ++ [(0, 0)] := by subst hm; simp
  rw [hset] at hO1
  replace hO1 := hO1.cut
  rw [hm] at hO1
  obtain ⟨D, hD, hS⟩ := HQ.out.map
  have hD1 : ((w.setCell ⟨gl, m * 2, none⟩ (.int .i64 0)).setCell ⟨gl, m * 2 + 1, none⟩ (.int .i64 0)).ownsMap Try.prog 2 (plainElem Try.prog 3) gm N D := hD.kept (row := some gl) (gset (gset ⟨rfl, rfl, rfl, Nat.le_refl _, fun _ _ _ => rfl⟩ _ _) _ _) (fun e => hnm (by injection e with e; exact e.symm))
  have hK1 : Kept w ((w.setCell ⟨gl, m * 2, none⟩ (.int .i64 0)).setCell ⟨gl, m * 2 + 1, none⟩ (.int .i64 0)) g gm (.slice (some ⟨gl, 0, none⟩) (m + 1) cap) := Kept.own_ (gset (gset ⟨rfl, rfl, rfl, Nat.le_refl _, fun _ _ _ => rfl⟩ _ _) _ _)
  have hz1 : ((w.setCell ⟨gl, m * 2, none⟩ (.int .i64 0)).setCell ⟨gl, m * 2 + 1, none⟩ (.int .i64 0)).heap.size = w.heap.size := by simp
  generalize ((w.setCell ⟨gl, m * 2, none⟩ (.int .i64 0)).setCell ⟨gl, m * 2 + 1, none⟩ (.int .i64 0)) = U at hR1 hO1 hD1 hK1 hz1 ⊢
  have hR2 := heap_setCell_same U g 4 _ _ (.slice (some ⟨gl, 0, none⟩) m cap) hR1
  have hO2 : OwnIt (U.setCell ⟨g, 4, none⟩ (.slice (some ⟨gl, 0, none⟩) m cap)) (.slice (some ⟨gl, 0, none⟩) m cap) l := hO1.kept (fun b hb => heap_setCell_other _ _ _ _ (by have hb' : gl = b := (by simpa [Value.ownBlock] using hb); show b ≠ g; omega))
  have hD2 : (U.setCell ⟨g, 4, none⟩ (.slice (some ⟨gl, 0, none⟩) m cap)).ownsMap Try.prog 2 (plainElem Try.prog 3) gm N D := hD1.kept (row := some g) (gset ⟨rfl, rfl, rfl, Nat.le_refl _, fun _ _ _ => rfl⟩ _ _) (fun e => HQ.out.ngm (by injection e with e; exact e.symm))
  have hK2 := hK1.trans (v1 := .slice (some ⟨gl, 0, none⟩) (m + 1) cap) (Kept.set_ U g gm 4 (.slice (some ⟨gl, 0, none⟩) (m + 1) cap) (.slice (some ⟨gl, 0, none⟩) m cap)) (.inl rfl)
  have hz2 : (U.setCell ⟨g, 4, none⟩ (.slice (some ⟨gl, 0, none⟩) m cap)).heap.size = w.heap.size := by simpa using hz1
  generalize (U.setCell ⟨g, 4, none⟩ (.slice (some ⟨gl, 0, none⟩) m cap)) = V at hR2 hO2 hD2 hK2 hz2 ⊢
  have hb3 := below_new V (.cells #[.int .i64 p, .int .i64 q] 64)
  have he3 := heap_alloc_new V (.cells #[.int .i64 p, .int .i64 q] 64)
  rw [hz2] at he3
  have hR3 := (hb3.block g (Array.getElem?_eq_some_iff.1 hR2).1).trans hR2
  have hO3 := hO2.below hb3
  have hD3 := hD2.alloc (.cells #[.int .i64 p, .int .i64 q] 64)
  have hK3 := hK2.trans (v1 := .slice (some ⟨gl, 0, none⟩) (m + 1) cap) (Kept.of_below hb3) (.inl rfl)
  generalize (V.alloc (.cells #[.int .i64 p, .int .i64 q] 64)) = X at he3 hR3 hO3 hD3 hK3 ⊢
  replace hK3 : Kept w X.drew g gm (.slice (some ⟨gl, 0, none⟩) (m + 1) cap) := hK3.drew
  replace hR3 : X.drew.heap[g]? = _ := hR3
  replace hO3 : OwnIt X.drew (.slice (some ⟨gl, 0, none⟩) m cap) l := hO3
  replace hD3 : X.drew.ownsMap Try.prog 2 (plainElem Try.prog 3) gm N D := hD3
  replace he3 : X.drew.heap[w.heap.size]? = _ := he3
  clear hb3 hR1 hO1 hD1 hK1 hz1 hR2 hO2 hD2 hK2 hz2 hb1 hre i0 i1 j0 j1 c4 d4 f0 f1 f4 hD
  obtain ⟨e, he⟩ : ∃ e, w.heap.size = e := ⟨_, rfl⟩
  rw [he] at he3 ⊢
  have hem : e ≠ gm := by omega
  have hngm := HQ.out.ngm
  refine wp_region_noPanic ?_
  refine wp_region_held_drew (S := (fun v => X.drew.grownBy v (some gm))) (by kernel_rfl) ⟨rfl, rfl, rfl, Nat.le_refl _, fun _ _ _ => rfl⟩ (fun hHeld => ?_)
  replace hHeld : X.drew.grownBy X.drew (some gm) := hHeld
  generalize X.drew = Y at hHeld he3 hR3 hO3 hD3 hK3 ⊢
  have Q5 := Lib.hid (show Y.cell? ⟨g, 5, none⟩ = some (.map (some gm)) from by rw [cell_of_row _ _ _ _ _ _ hR3]; rfl)
  have Q0 := Lib.hid (show Y.cell? ⟨e, 0, none⟩ = some (.int .i64 p) from by rw [cell_of_row _ _ _ _ _ _ he3]; rfl)
  refine wpAnyH_take (i := 0) (oi := ({ dst := some 34, op := Op.move (Operand.tmp 0), type := 98, pos := "values.go:45", after := #[], guard := none } : Oper)) (v := ?_) rfl (by kernel_rfl) (by kernel_rfl) (by kernel_rfl) (fun _ _ _ h => h) (Or.inl ⟨by rfl, ?_⟩) (by assumption) ?_
  rotate_left 1
  · intro v hSw
    replace hSw : Y.grownBy v (some gm) := hSw
    have s5 := hSw.cell Q5.out (fun e => hngm (by injection e))
    have s0 := hSw.cell Q0.out (fun e => hem (by injection e))
    (try go_simp)
    (try with_reducible rfl)
  (try simp only [Act.put, List.setIfInBounds_toArray, List.set_cons_zero, List.set_cons_succ])
  refine wpAnyH_take (i := 1) (oi := ({ dst := some 35, op := Op.nilCheck (Operand.tmp 34), type := 0, pos := "values.go:45", after := #[{ on := 0, ground := Ground.data }], guard := none } : Oper)) (v := ?_) rfl (by kernel_rfl) (by kernel_rfl) (by kernel_rfl) (fun _ _ _ h => h) (Or.inl ⟨by rfl, ?_⟩) (by assumption) ?_
  rotate_left 1
  · intro v hSw
    replace hSw : Y.grownBy v (some gm) := hSw
    have s5 := hSw.cell Q5.out (fun e => hngm (by injection e))
    have s0 := hSw.cell Q0.out (fun e => hem (by injection e))
    (try go_simp)
    (try with_reducible rfl)
  (try simp only [Act.put, List.setIfInBounds_toArray, List.set_cons_zero, List.set_cons_succ])
  refine wpAnyH_take (i := 2) (oi := ({ dst := some 36, op := Op.fieldAddr 45 (Operand.tmp 35) 3, type := 0, pos := "values.go:45", after := #[{ on := 1, ground := Ground.data }], guard := none } : Oper)) (v := ?_) rfl (by kernel_rfl) (by kernel_rfl) (by kernel_rfl) (fun _ _ _ h => h) (Or.inl ⟨by rfl, ?_⟩) (by assumption) ?_
  rotate_left 1
  · intro v hSw
    replace hSw : Y.grownBy v (some gm) := hSw
    have s5 := hSw.cell Q5.out (fun e => hngm (by injection e))
    have s0 := hSw.cell Q0.out (fun e => hem (by injection e))
    (try go_simp)
    (try with_reducible rfl)
  (try simp only [Act.put, List.setIfInBounds_toArray, List.set_cons_zero, List.set_cons_succ])
  refine wpAnyH_take (i := 3) (oi := ({ dst := some 37, op := Op.load 43 (Operand.tmp 36), type := 43, pos := "values.go:45", after := #[{ on := 2, ground := Ground.data }], guard := none } : Oper)) (v := ?_) rfl (by kernel_rfl) (by kernel_rfl) (by kernel_rfl) (fun _ _ _ h => h) (Or.inl ⟨by rfl, ?_⟩) (by assumption) ?_
  rotate_left 1
  · intro v hSw
    replace hSw : Y.grownBy v (some gm) := hSw
    have s5 := hSw.cell Q5.out (fun e => hngm (by injection e))
    have s0 := hSw.cell Q0.out (fun e => hem (by injection e))
    (try go_simp)
    (try with_reducible rfl)
  (try simp only [Act.put, List.setIfInBounds_toArray, List.set_cons_zero, List.set_cons_succ])
  refine wpAnyH_take (i := 4) (oi := ({ dst := some 38, op := Op.fieldAddr 64 (Operand.tmp 4) 0, type := 0, pos := "values.go:45", after := #[], guard := none } : Oper)) (v := ?_) rfl (by kernel_rfl) (by kernel_rfl) (by kernel_rfl) (fun _ _ _ h => h) (Or.inl ⟨by rfl, ?_⟩) (by assumption) ?_
  rotate_left 1
  · intro v hSw
    replace hSw : Y.grownBy v (some gm) := hSw
    have s5 := hSw.cell Q5.out (fun e => hngm (by injection e))
    have s0 := hSw.cell Q0.out (fun e => hem (by injection e))
    (try go_simp)
    (try with_reducible rfl)
  (try simp only [Act.put, List.setIfInBounds_toArray, List.set_cons_zero, List.set_cons_succ])
  refine wpAnyH_take (i := 5) (oi := ({ dst := some 39, op := Op.load 2 (Operand.tmp 38), type := 2, pos := "values.go:45", after := #[{ on := 4, ground := Ground.data }], guard := none } : Oper)) (v := ?_) rfl (by kernel_rfl) (by kernel_rfl) (by kernel_rfl) (fun _ _ _ h => h) (Or.inl ⟨by rfl, ?_⟩) (by assumption) ?_
  rotate_left 1
  · intro v hSw
    replace hSw : Y.grownBy v (some gm) := hSw
    have s5 := hSw.cell Q5.out (fun e => hngm (by injection e))
    have s0 := hSw.cell Q0.out (fun e => hem (by injection e))
    (try go_simp)
    (try with_reducible rfl)
  (try simp only [Act.put, List.setIfInBounds_toArray, List.set_cons_zero, List.set_cons_succ])
  refine wpAnyH_ready (rs := [6]) (by kernel_rfl) (by simp) ?_
  refine AllReadyH.cons (o := ({ dst := none, op := Op.call { callee := Callee.builtin Builtin.delete, args := #[Operand.tmp 37, Operand.tmp 39], argTypes := #[43, 2] }, type := 0, pos := "values.go:45", after := #[{ on := 3, ground := Ground.data }, { on := 5, ground := Ground.data }], guard := none } : Oper)) rfl (fun K hK => ?_) (AllReadyH.nil)
  obtain ⟨Z, hrun, hDz, hTz⟩ := hD3.drop lawK Try.underlying43 (keyOf_int_mk Try.underlying2 (HQ.out.wf (p, q) (by simp))) 0
  have hGz : Y.grownBy Z (some gm) := hTz.grown
  go_simp
  refine hK.out _ _ hGz (fun _ => ?_)
  clear hK K
  (try simp only [Act.put, List.setIfInBounds_toArray, List.set_cons_zero, List.set_cons_succ])
  refine wpAnyH_done (by kernel_rfl) ?_ _
  refine NoPanic.normal ?_
  have hKz := hK3.trans (v1 := .slice (some ⟨gl, 0, none⟩) (m + 1) cap) (Kept.gm_ hGz) (.inl rfl)
  have hRz := (hGz.block g (Array.getElem?_eq_some_iff.1 hR3).1 (fun e => hngm (by injection e))).trans hR3
  have hOz : OwnIt Z (.slice (some ⟨gl, 0, none⟩) m cap) l := hO3.kept (fun b hb => hGz.block b (hO3.lt b hb) (fun e' => hnm (by have hb' : gl = b := (by simpa [Value.ownBlock] using hb); injection e' with e'; omega)))
  have hez := (hGz.block e (Array.getElem?_eq_some_iff.1 he3).1 (fun e' => hem (by injection e'))).trans he3
  obtain ⟨z0, z1, -, -⟩ := made_facts hez
  clear hHeld Q5 Q0 hrun hGz hTz
  go_wp2_with fail
  go_ret
  exact ⟨rfl, ⟨hRz, hOz, ⟨_, hDz, hS.pop HQ.out.uniq⟩, hngm, HQ.out.ng, HQ.out.nm, H.uniq_pop HQ.out.uniq, fun x hx => HQ.out.wf x (by simp [hx])⟩, hKz⟩
end Go.Proofs.Ytdkfaepmgennjaa
