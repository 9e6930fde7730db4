/- Save of a queue that has values. -/
import Derived.Test.YtdkfaepmgennjaaHpSorted
import Derived.Test.YtdkfaepmgennjaaHpMeth
namespace Go.Proofs.Ytdkfaepmgennjaa
open Go.RowKit
open H (IT)
set_option linter.unusedSimpArgs false
set_option maxRecDepth 100000
theorem pair_facts {w : World} {n : Nat} {a b : Value} {t : TypeId} (r : w.heap[n]? = some (.cells #[a, b] t (0, 0))) : w.cell? ⟨n, 0, none⟩ = some a ∧ w.cell? ⟨n, 1, none⟩ = some b ∧ w.frozen? ⟨n, 0, none⟩ = false ∧ w.frozen? ⟨n, 1, none⟩ = false :=
  ⟨by rw [cell_of_row _ _ _ _ _ _ r]; rfl, by rw [cell_of_row _ _ _ _ _ _ r]; rfl, frozen_of_row _ _ _ _ _ r, frozen_of_row _ _ _ _ _ r⟩
set_option maxHeartbeats 2000000 in
theorem Save_any (nf : Nat) (ord : Int → Int → Bool) (ho : OrdN nf ord) (g gm gl cap m N : Nat) (nx : Int) (l : List IT) (w : World) (hq : QAt w g gm nf (self g) nx (.slice (some ⟨gl, 0, none⟩) m cap) N l) (hm : l.length = m) (h0 : 0 < m) (h12 : m ≤ 12) :
    Calls Try.prog 17 #[.pointer (some ⟨g, 0, none⟩)] w fun e w' => ∃ gd cap, e = .returned (.agg #[.int .i64 nx, .slice (some ⟨gd, 0, none⟩) m cap]) ∧ OwnIt w' (.slice (some ⟨gd, 0, none⟩) m cap) (H.isort ord m l) ∧ w.heap.size ≤ gd ∧ Below w.heap.size w w' := by
  have hb := below_new w (.cells #[.int .i64 0, .slice none 0 0] 24)
  have hr := heap_alloc_new w (.cells #[.int .i64 0, .slice none 0 0] 24)
  have HM := Lib.hid (isMade_any nf g gm N _ nx l _ (hq.below hb))
  have HQ := Lib.hid (hq.below hb)
  have HO := Lib.hid ho
  have HB := Lib.hid hb
  have HR := Lib.hid hr
  have Hm := Lib.hid hm
  clear hq hb hr ho hm
  go_enter Try.func17, Try.ntmps17
  go_wp2_with fail
  refine HM.out.mono ?_
  rintro e w' ⟨rfl, rfl⟩
  go_wp2_with fail
  clear HM
  generalize (w.alloc (.cells #[.int .i64 0, .slice none 0 0] 24)) = W1 at HQ HB HR ⊢
  have hwl : w.heap.size < W1.heap.size := (Array.getElem?_eq_some_iff.1 HR.out).1
  obtain ⟨r, hr⟩ : ∃ r, w.heap.size = r := ⟨_, rfl⟩
  rw [hr] at HR hwl ⊢
  have C1 := Lib.hid (show W1.cell? ⟨g, 1, none⟩ = some (.int .i64 nx) from by rw [cell_of_row _ _ _ _ _ _ HQ.out.row]; rfl)
  have HG := Lib.hid (Array.getElem?_eq_some_iff.1 HQ.out.row).1
  have HGR : Hid (g ≠ r) := Lib.hid (fun e => by have h1 := HQ.out.row; rw [e, HR.out] at h1; cases h1)
  refine wp_region_noPanic ?_
  refine wp_region_held_drew (S := (fun v => Below W1.heap.size W1 v ∨ W1.grownBy v (some r))) (by kernel_rfl) (.inl (Below.refl W1.heap.size W1).drew) (fun hHeld => ?_)
  replace hHeld : Below W1.heap.size W1 W1.drew := (Below.refl W1.heap.size W1).drew
  have hS0 : Below W1.heap.size W1 W1.drew ∨ W1.grownBy W1.drew (some r) := .inl hHeld
  generalize W1.drew = X0 at hHeld hS0 ⊢
  refine wpAnyH_take (i := 0) (oi := ({ dst := some 7, op := Op.move (Operand.tmp 0), type := 27, pos := "state.go:34", after := #[], guard := none } : Oper)) (v := ?_) rfl (by kernel_rfl) (by kernel_rfl) (by kernel_rfl) (fun _ _ _ h => h) (Or.inl ⟨by rfl, ?_⟩) (by assumption) ?_
  rotate_left 1
  · intro v hSw
    replace hSw : Below W1.heap.size W1 v ∨ W1.grownBy v (some r) := hSw
    have s1 : v.cell? ⟨g, 1, none⟩ = some (.int .i64 nx) := hSw.elim (fun h => (h.cell (show (⟨g, 1, none⟩ : Addr).block < _ from HG.out)).trans C1.out) (fun h => h.cell C1.out (fun e => HGR.out (by injection e)))
    (try go_simp)
    (try with_reducible rfl)
  (try simp only [Act.put, List.setIfInBounds_toArray, List.set_cons_zero, List.set_cons_succ])
  refine wpAnyH_take (i := 1) (oi := ({ dst := some 8, op := Op.nilCheck (Operand.tmp 7), type := 0, pos := "state.go:34", after := #[{ on := 0, ground := Ground.data }], guard := none } : Oper)) (v := ?_) rfl (by kernel_rfl) (by kernel_rfl) (by kernel_rfl) (fun _ _ _ h => h) (Or.inl ⟨by rfl, ?_⟩) (by assumption) ?_
  rotate_left 1
  · intro v hSw
    replace hSw : Below W1.heap.size W1 v ∨ W1.grownBy v (some r) := hSw
    have s1 : v.cell? ⟨g, 1, none⟩ = some (.int .i64 nx) := hSw.elim (fun h => (h.cell (show (⟨g, 1, none⟩ : Addr).block < _ from HG.out)).trans C1.out) (fun h => h.cell C1.out (fun e => HGR.out (by injection e)))
    (try go_simp)
    (try with_reducible rfl)
  (try simp only [Act.put, List.setIfInBounds_toArray, List.set_cons_zero, List.set_cons_succ])
  refine wpAnyH_take (i := 2) (oi := ({ dst := some 9, op := Op.fieldAddr 47 (Operand.tmp 8) 1, type := 0, pos := "state.go:34", after := #[{ on := 1, ground := Ground.data }], guard := none } : Oper)) (v := ?_) rfl (by kernel_rfl) (by kernel_rfl) (by kernel_rfl) (fun _ _ _ h => h) (Or.inl ⟨by rfl, ?_⟩) (by assumption) ?_
  rotate_left 1
  · intro v hSw
    replace hSw : Below W1.heap.size W1 v ∨ W1.grownBy v (some r) := hSw
    have s1 : v.cell? ⟨g, 1, none⟩ = some (.int .i64 nx) := hSw.elim (fun h => (h.cell (show (⟨g, 1, none⟩ : Addr).block < _ from HG.out)).trans C1.out) (fun h => h.cell C1.out (fun e => HGR.out (by injection e)))
    (try go_simp)
    (try with_reducible rfl)
  (try simp only [Act.put, List.setIfInBounds_toArray, List.set_cons_zero, List.set_cons_succ])
  refine wpAnyH_take (i := 3) (oi := ({ dst := some 10, op := Op.load 2 (Operand.tmp 9), type := 2, pos := "state.go:34", after := #[{ on := 2, ground := Ground.data }], guard := none } : Oper)) (v := ?_) rfl (by kernel_rfl) (by kernel_rfl) (by kernel_rfl) (fun _ _ _ h => h) (Or.inl ⟨by rfl, ?_⟩) (by assumption) ?_
  rotate_left 1
  · intro v hSw
    replace hSw : Below W1.heap.size W1 v ∨ W1.grownBy v (some r) := hSw
    have s1 : v.cell? ⟨g, 1, none⟩ = some (.int .i64 nx) := hSw.elim (fun h => (h.cell (show (⟨g, 1, none⟩ : Addr).block < _ from HG.out)).trans C1.out) (fun h => h.cell C1.out (fun e => HGR.out (by injection e)))
    (try go_simp)
    (try with_reducible rfl)
  (try simp only [Act.put, List.setIfInBounds_toArray, List.set_cons_zero, List.set_cons_succ])
  refine wpAnyH_take (i := 4) (oi := ({ dst := some 11, op := Op.move (Operand.tmp 0), type := 27, pos := "state.go:34", after := #[], guard := none } : Oper)) (v := ?_) rfl (by kernel_rfl) (by kernel_rfl) (by kernel_rfl) (fun _ _ _ h => h) (Or.inl ⟨by rfl, ?_⟩) (by assumption) ?_
  rotate_left 1
  · intro v hSw
    replace hSw : Below W1.heap.size W1 v ∨ W1.grownBy v (some r) := hSw
    have s1 : v.cell? ⟨g, 1, none⟩ = some (.int .i64 nx) := hSw.elim (fun h => (h.cell (show (⟨g, 1, none⟩ : Addr).block < _ from HG.out)).trans C1.out) (fun h => h.cell C1.out (fun e => HGR.out (by injection e)))
    (try go_simp)
    (try with_reducible rfl)
  (try simp only [Act.put, List.setIfInBounds_toArray, List.set_cons_zero, List.set_cons_succ])
  refine wpAnyH_take (i := 5) (oi := ({ dst := some 12, op := Op.nilCheck (Operand.tmp 11), type := 0, pos := "state.go:34", after := #[{ on := 4, ground := Ground.data }], guard := none } : Oper)) (v := ?_) rfl (by kernel_rfl) (by kernel_rfl) (by kernel_rfl) (fun _ _ _ h => h) (Or.inl ⟨by rfl, ?_⟩) (by assumption) ?_
  rotate_left 1
  · intro v hSw
    replace hSw : Below W1.heap.size W1 v ∨ W1.grownBy v (some r) := hSw
    have s1 : v.cell? ⟨g, 1, none⟩ = some (.int .i64 nx) := hSw.elim (fun h => (h.cell (show (⟨g, 1, none⟩ : Addr).block < _ from HG.out)).trans C1.out) (fun h => h.cell C1.out (fun e => HGR.out (by injection e)))
    (try go_simp)
    (try with_reducible rfl)
  (try simp only [Act.put, List.setIfInBounds_toArray, List.set_cons_zero, List.set_cons_succ])
  refine wpAnyH_take (i := 6) (oi := ({ dst := some 13, op := Op.fieldAddr 47 (Operand.tmp 12) 2, type := 0, pos := "state.go:34", after := #[{ on := 5, ground := Ground.data }], guard := none } : Oper)) (v := ?_) rfl (by kernel_rfl) (by kernel_rfl) (by kernel_rfl) (fun _ _ _ h => h) (Or.inl ⟨by rfl, ?_⟩) (by assumption) ?_
  rotate_left 1
  · intro v hSw
    replace hSw : Below W1.heap.size W1 v ∨ W1.grownBy v (some r) := hSw
    have s1 : v.cell? ⟨g, 1, none⟩ = some (.int .i64 nx) := hSw.elim (fun h => (h.cell (show (⟨g, 1, none⟩ : Addr).block < _ from HG.out)).trans C1.out) (fun h => h.cell C1.out (fun e => HGR.out (by injection e)))
    (try go_simp)
    (try with_reducible rfl)
  (try simp only [Act.put, List.setIfInBounds_toArray, List.set_cons_zero, List.set_cons_succ])
  refine wpAnyH_ready (rs := [7]) (by kernel_rfl) (by simp) ?_
  refine AllReadyH.cons (o := ({ dst := some 14, op := Op.call { callee := Callee.value (Operand.func 49), args := #[Operand.tmp 13], argTypes := #[45] }, type := 22, pos := "state.go:34", after := #[{ on := 6, ground := Ground.data }], guard := none } : Oper)) rfl (fun K hK => ?_) (AllReadyH.nil)
  go_simp
  refine (sorted_any nf ord HO.out g gm gl cap m N (self g) nx l X0 (HQ.out.below hHeld) Hm.out h0 h12).mono ?_
  rintro e X1 ⟨gd, cap', rfl, hO, hgd, hb1⟩
  have hH1 : Below W1.heap.size W1 X1 := bt hHeld hHeld.size hb1
  have hS1 : Below W1.heap.size W1 X1 ∨ W1.grownBy X1 (some r) := .inl hH1
  refine hK.out _ _ hS1 (fun _ => ?_)
  clear hK K
  (try simp only [Act.put, List.setIfInBounds_toArray, List.set_cons_zero, List.set_cons_succ])
  refine wpAnyH_take (i := 8) (oi := ({ dst := some 15, op := Op.build 24 #[(0, Operand.tmp 10), (1, Operand.tmp 14)], type := 24, pos := "state.go:34", after := #[{ on := 3, ground := Ground.data }, { on := 7, ground := Ground.data }], guard := none } : Oper)) (v := ?_) rfl (by kernel_rfl) (by kernel_rfl) (by kernel_rfl) (fun _ _ _ h => h) (Or.inl ⟨by rfl, ?_⟩) (by assumption) ?_
  rotate_left 1
  · intro v hSw
    (try go_simp)
    (try with_reducible rfl)
  (try simp only [Act.put, List.setIfInBounds_toArray, List.set_cons_zero, List.set_cons_succ])
  refine wpAnyH_ready (rs := [9]) (by kernel_rfl) (by simp) ?_
  refine AllReadyH.cons (o := ({ dst := none, op := Op.store 24 (Operand.tmp 2) (Operand.tmp 15), type := 0, pos := "state.go:34", after := #[{ on := 8, ground := Ground.data }, { on := 7, ground := Ground.chain }, { on := 0, ground := Ground.phase }, { on := 1, ground := Ground.phase }, { on := 2, ground := Ground.phase }, { on := 3, ground := Ground.phase }, { on := 4, ground := Ground.phase }, { on := 5, ground := Ground.phase }, { on := 6, ground := Ground.phase }, { on := 7, ground := Ground.phase }, { on := 8, ground := Ground.phase }], guard := none } : Oper)) rfl (fun K hK => ?_) (AllReadyH.nil)
  have hr1 := (hH1.block r hwl).trans HR.out
  obtain ⟨f0, f1, f2, f3⟩ := pair_facts hr1
  go_simp
  have hr2 := set_two hr1 (.int .i64 nx) (.slice (some ⟨gd, 0, none⟩) m cap')
  have hG2 : X1.grownBy ((X1.setCell ⟨r, 0, none⟩ (.int .i64 nx)).setCell ⟨r, 1, none⟩ (.slice (some ⟨gd, 0, none⟩) m cap')) (some r) := gset (gset ⟨rfl, rfl, rfl, Nat.le_refl _, fun _ _ _ => rfl⟩ _ _) _ _
  generalize ((X1.setCell ⟨r, 0, none⟩ (.int .i64 nx)).setCell ⟨r, 1, none⟩ (.slice (some ⟨gd, 0, none⟩) m cap')) = X2 at hr2 hG2 ⊢
  have hS2 : Below W1.heap.size W1 X2 ∨ W1.grownBy X2 (some r) := .inr (grown_trans ⟨hH1.os, hH1.tape, hH1.output, hH1.size, fun k hk _ => hH1.block k hk⟩ hG2)
  refine hK.out _ _ hS2 (fun _ => ?_)
  clear hK K
  (try simp only [Act.put, List.setIfInBounds_toArray, List.set_cons_zero, List.set_cons_succ])
  refine wpAnyH_done (by kernel_rfl) ?_ _
  refine NoPanic.normal ?_
  have hgd' : r < gd := by have := hHeld.size; omega
  have HO2 : Hid (OwnIt X2 (.slice (some ⟨gd, 0, none⟩) m cap') (H.isort ord m l)) := Lib.hid (hO.kept (fun b hb => hG2.block b (hO.lt b hb) (fun e => by injection e with e; have hb' : gd = b := (by simpa [Value.ownBlock] using hb); omega)))
  have HB2 := Lib.hid ((bt HB.out HB.out.size hH1).grown hG2 (by have := HB.out.size; have := hH1.size; omega) (fun k e => by injection e with e; omega))
  have HR2 := Lib.hid hr2
  clear hHeld hS0 hH1 hS1 hS2 hr1 hr2 hG2 f0 f1 f2 f3 hO hb1
  go_wp2_with fail
  refine bodyPost_ret (results_cell_one rfl _ _ r _ _ _ _ rfl HR2.out Try.underlying24 rfl (by kernel_rfl)) rfl ?_
  exact ⟨gd, cap', rfl, HO2.out, by omega, HB2.out⟩
end Go.Proofs.Ytdkfaepmgennjaa
