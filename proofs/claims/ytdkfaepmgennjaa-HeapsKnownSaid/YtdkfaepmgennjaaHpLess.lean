/- Less: whether the value at one place comes before that at another one. -/
import Derived.Test.YtdkfaepmgennjaaHpMem
namespace Go.Proofs.Ytdkfaepmgennjaa
open Go.RowKit
open H (IT)
set_option linter.unusedSimpArgs false
set_option maxRecDepth 100000
def OrdN (n : Nat) (ord : Int → Int → Bool) : Prop := (n = 31 ∨ n = 36) ∧ OrdC n ord
set_option maxHeartbeats 1000000 in
theorem Less_any (n : Nat) (ord : Int → Int → Bool) (ho : OrdN n ord) (g gl cap m : Nat) (s mp : Value) (nx : Int) (l : List IT) (i j : Nat) (w : World) (hg : w.heap[g]? = some (rowQ s nx (.func (.func n) #[] #[]) false (.slice (some ⟨gl, 0, none⟩) m cap) mp))
    (hl : OwnIt w (.slice (some ⟨gl, 0, none⟩) m cap) l) (hm : l.length = m) (hi : i < l.length) (hj : j < l.length) :
    Calls Try.prog 117 #[.pointer (some ⟨g, 2, none⟩), .int .i64 i, .int .i64 j] w fun e w' => e = .returned (.bool (H.lt ord (l[i]) (l[j]))) ∧ Below w.heap.size w w' := by
  have hgl : g < w.heap.size := (Array.getElem?_eq_some_iff.1 hg).1
  obtain ⟨hll, i0, i1⟩ := hl.at_ hi
  obtain ⟨-, j0, j1⟩ := hl.at_ hj
  obtain ⟨hi_, hi1⟩ : ∃ x, l[i] = x := ⟨_, rfl⟩
  obtain ⟨hj_, hj1⟩ : ∃ x, l[j] = x := ⟨_, rfl⟩
  obtain ⟨h, va⟩ := hi_
  obtain ⟨k, vb⟩ := hj_
  rw [hi1] at i0 i1 ⊢
  rw [hj1] at j0 j1 ⊢
  simp only at i0 i1 j0 j1
  have c4 : w.cell? ⟨g, 4, none⟩ = some (.slice (some ⟨gl, 0, none⟩) m cap) := by rw [cell_of_row _ _ _ _ _ _ hg]; rfl
  have C4 := Lib.hid c4
  have HS := Lib.hid (fun w hg => compare_any n ord ho.1 ho.2 g s (.slice (some ⟨gl, 0, none⟩) m cap) mp nx h va k vb w hg)
  have HV : Hid (H.lt ord (h, va) (k, vb) = decide (H.cmpV ord (h, va) (k, vb) < 0)) := Lib.hid rfl
  have HR := Lib.hid hg
  have I0 := Lib.hid i0
  have I1 := Lib.hid i1
  have J0 := Lib.hid j0
  have J1 := Lib.hid j1
  have HG := Lib.hid hgl
  have HL := Lib.hid hll
  have him : i < m := by rw [← hm]; exact hi
  have hjm : j < m := by rw [← hm]; exact hj
  clear hg hl hgl hll i0 i1 j0 j1 hi1 hj1 c4 ho hi hj hm
  generalize H.cmpV ord (h, va) (k, vb) = cc at HS HV
  go_enter Try.func117, Try.ntmps117
  go_wp2_with fail
  refine wp_region_noPanic ?_
  refine wp_region_held_drew (S := (fun v => Below w.heap.size w v)) (by kernel_rfl) (Below.refl w.heap.size w).drew (fun hHeld => ?_)
  replace hHeld : Below w.heap.size w w.drew := hHeld
  generalize w.drew = X0 at hHeld ⊢
  refine wpAnyH_take (i := 0) (oi := ({ dst := some 7, op := Op.move (Operand.tmp 0), type := 98, pos := "values.go:22", after := #[], guard := none } : Oper)) (v := ?_) rfl (by kernel_rfl) (by kernel_rfl) (by kernel_rfl) (fun _ _ _ h => h) (Or.inl ⟨by rfl, ?_⟩) (by assumption) ?_
  rotate_left 1
  · intro v hSw
    replace hSw : Below w.heap.size w v := hSw
    have q4 := (hSw.cell (show (⟨g, 4, none⟩ : Addr).block < _ from HG.out)).trans C4.out
    have q0 := (hSw.cell (show (⟨gl, i * 2, none⟩ : Addr).block < _ from HL.out)).trans I0.out
    have q1 := (hSw.cell (show (⟨gl, i * 2 + 1, none⟩ : Addr).block < _ from HL.out)).trans I1.out
    have q2 := (hSw.cell (show (⟨gl, j * 2, none⟩ : Addr).block < _ from HL.out)).trans J0.out
    have q3 := (hSw.cell (show (⟨gl, j * 2 + 1, none⟩ : Addr).block < _ from HL.out)).trans J1.out
    (try go_simp)
    (try with_reducible rfl)
  (try simp only [Act.put, List.setIfInBounds_toArray, List.set_cons_zero, List.set_cons_succ])
  refine wpAnyH_take (i := 1) (oi := ({ dst := some 8, op := Op.move (Operand.tmp 0), type := 98, pos := "values.go:22", after := #[], guard := none } : Oper)) (v := ?_) rfl (by kernel_rfl) (by kernel_rfl) (by kernel_rfl) (fun _ _ _ h => h) (Or.inl ⟨by rfl, ?_⟩) (by assumption) ?_
  rotate_left 1
  · intro v hSw
    replace hSw : Below w.heap.size w v := hSw
    have q4 := (hSw.cell (show (⟨g, 4, none⟩ : Addr).block < _ from HG.out)).trans C4.out
    have q0 := (hSw.cell (show (⟨gl, i * 2, none⟩ : Addr).block < _ from HL.out)).trans I0.out
    have q1 := (hSw.cell (show (⟨gl, i * 2 + 1, none⟩ : Addr).block < _ from HL.out)).trans I1.out
    have q2 := (hSw.cell (show (⟨gl, j * 2, none⟩ : Addr).block < _ from HL.out)).trans J0.out
    have q3 := (hSw.cell (show (⟨gl, j * 2 + 1, none⟩ : Addr).block < _ from HL.out)).trans J1.out
    (try go_simp)
    (try with_reducible rfl)
  (try simp only [Act.put, List.setIfInBounds_toArray, List.set_cons_zero, List.set_cons_succ])
  refine wpAnyH_take (i := 2) (oi := ({ dst := some 9, op := Op.nilCheck (Operand.tmp 8), type := 0, pos := "values.go:22", after := #[{ on := 1, ground := Ground.data }], guard := none } : Oper)) (v := ?_) rfl (by kernel_rfl) (by kernel_rfl) (by kernel_rfl) (fun _ _ _ h => h) (Or.inl ⟨by rfl, ?_⟩) (by assumption) ?_
  rotate_left 1
  · intro v hSw
    replace hSw : Below w.heap.size w v := hSw
    have q4 := (hSw.cell (show (⟨g, 4, none⟩ : Addr).block < _ from HG.out)).trans C4.out
    have q0 := (hSw.cell (show (⟨gl, i * 2, none⟩ : Addr).block < _ from HL.out)).trans I0.out
    have q1 := (hSw.cell (show (⟨gl, i * 2 + 1, none⟩ : Addr).block < _ from HL.out)).trans I1.out
    have q2 := (hSw.cell (show (⟨gl, j * 2, none⟩ : Addr).block < _ from HL.out)).trans J0.out
    have q3 := (hSw.cell (show (⟨gl, j * 2 + 1, none⟩ : Addr).block < _ from HL.out)).trans J1.out
    (try go_simp)
    (try with_reducible rfl)
  (try simp only [Act.put, List.setIfInBounds_toArray, List.set_cons_zero, List.set_cons_succ])
  refine wpAnyH_take (i := 3) (oi := ({ dst := some 10, op := Op.fieldAddr 45 (Operand.tmp 9) 2, type := 0, pos := "values.go:22", after := #[{ on := 2, ground := Ground.data }], guard := none } : Oper)) (v := ?_) rfl (by kernel_rfl) (by kernel_rfl) (by kernel_rfl) (fun _ _ _ h => h) (Or.inl ⟨by rfl, ?_⟩) (by assumption) ?_
  rotate_left 1
  · intro v hSw
    replace hSw : Below w.heap.size w v := hSw
    have q4 := (hSw.cell (show (⟨g, 4, none⟩ : Addr).block < _ from HG.out)).trans C4.out
    have q0 := (hSw.cell (show (⟨gl, i * 2, none⟩ : Addr).block < _ from HL.out)).trans I0.out
    have q1 := (hSw.cell (show (⟨gl, i * 2 + 1, none⟩ : Addr).block < _ from HL.out)).trans I1.out
    have q2 := (hSw.cell (show (⟨gl, j * 2, none⟩ : Addr).block < _ from HL.out)).trans J0.out
    have q3 := (hSw.cell (show (⟨gl, j * 2 + 1, none⟩ : Addr).block < _ from HL.out)).trans J1.out
    (try go_simp)
    (try with_reducible rfl)
  (try simp only [Act.put, List.setIfInBounds_toArray, List.set_cons_zero, List.set_cons_succ])
  refine wpAnyH_take (i := 4) (oi := ({ dst := some 11, op := Op.load 22 (Operand.tmp 10), type := 22, pos := "values.go:22", after := #[{ on := 3, ground := Ground.data }], guard := none } : Oper)) (v := ?_) rfl (by kernel_rfl) (by kernel_rfl) (by kernel_rfl) (fun _ _ _ h => h) (Or.inl ⟨by rfl, ?_⟩) (by assumption) ?_
  rotate_left 1
  · intro v hSw
    replace hSw : Below w.heap.size w v := hSw
    have q4 := (hSw.cell (show (⟨g, 4, none⟩ : Addr).block < _ from HG.out)).trans C4.out
    have q0 := (hSw.cell (show (⟨gl, i * 2, none⟩ : Addr).block < _ from HL.out)).trans I0.out
    have q1 := (hSw.cell (show (⟨gl, i * 2 + 1, none⟩ : Addr).block < _ from HL.out)).trans I1.out
    have q2 := (hSw.cell (show (⟨gl, j * 2, none⟩ : Addr).block < _ from HL.out)).trans J0.out
    have q3 := (hSw.cell (show (⟨gl, j * 2 + 1, none⟩ : Addr).block < _ from HL.out)).trans J1.out
    (try go_simp)
    (try with_reducible rfl)
  (try simp only [Act.put, List.setIfInBounds_toArray, List.set_cons_zero, List.set_cons_succ])
  refine wpAnyH_take (i := 5) (oi := ({ dst := some 12, op := Op.move (Operand.tmp 1), type := 3, pos := "values.go:22", after := #[], guard := none } : Oper)) (v := ?_) rfl (by kernel_rfl) (by kernel_rfl) (by kernel_rfl) (fun _ _ _ h => h) (Or.inl ⟨by rfl, ?_⟩) (by assumption) ?_
  rotate_left 1
  · intro v hSw
    replace hSw : Below w.heap.size w v := hSw
    have q4 := (hSw.cell (show (⟨g, 4, none⟩ : Addr).block < _ from HG.out)).trans C4.out
    have q0 := (hSw.cell (show (⟨gl, i * 2, none⟩ : Addr).block < _ from HL.out)).trans I0.out
    have q1 := (hSw.cell (show (⟨gl, i * 2 + 1, none⟩ : Addr).block < _ from HL.out)).trans I1.out
    have q2 := (hSw.cell (show (⟨gl, j * 2, none⟩ : Addr).block < _ from HL.out)).trans J0.out
    have q3 := (hSw.cell (show (⟨gl, j * 2 + 1, none⟩ : Addr).block < _ from HL.out)).trans J1.out
    (try go_simp)
    (try with_reducible rfl)
  (try simp only [Act.put, List.setIfInBounds_toArray, List.set_cons_zero, List.set_cons_succ])
  refine wpAnyH_take (i := 6) (oi := ({ dst := some 13, op := Op.indexAddr 22 (Operand.tmp 11) (Operand.tmp 12), type := 0, pos := "values.go:22", after := #[{ on := 4, ground := Ground.data }, { on := 5, ground := Ground.data }], guard := none } : Oper)) (v := ?_) rfl (by kernel_rfl) (by kernel_rfl) (by kernel_rfl) (fun _ _ _ h => h) (Or.inl ⟨by rfl, ?_⟩) (by assumption) ?_
  rotate_left 1
  · intro v hSw
    replace hSw : Below w.heap.size w v := hSw
    have q4 := (hSw.cell (show (⟨g, 4, none⟩ : Addr).block < _ from HG.out)).trans C4.out
    have q0 := (hSw.cell (show (⟨gl, i * 2, none⟩ : Addr).block < _ from HL.out)).trans I0.out
    have q1 := (hSw.cell (show (⟨gl, i * 2 + 1, none⟩ : Addr).block < _ from HL.out)).trans I1.out
    have q2 := (hSw.cell (show (⟨gl, j * 2, none⟩ : Addr).block < _ from HL.out)).trans J0.out
    have q3 := (hSw.cell (show (⟨gl, j * 2 + 1, none⟩ : Addr).block < _ from HL.out)).trans J1.out
    (try go_simp)
    (try with_reducible rfl)
  (try simp only [Act.put, List.setIfInBounds_toArray, List.set_cons_zero, List.set_cons_succ])
  refine wpAnyH_take (i := 7) (oi := ({ dst := some 14, op := Op.load 64 (Operand.tmp 13), type := 64, pos := "values.go:22", after := #[{ on := 6, ground := Ground.data }], guard := none } : Oper)) (v := ?_) rfl (by kernel_rfl) (by kernel_rfl) (by kernel_rfl) (fun _ _ _ h => h) (Or.inl ⟨by rfl, ?_⟩) (by assumption) ?_
  rotate_left 1
  · intro v hSw
    replace hSw : Below w.heap.size w v := hSw
    have q4 := (hSw.cell (show (⟨g, 4, none⟩ : Addr).block < _ from HG.out)).trans C4.out
    have q0 := (hSw.cell (show (⟨gl, i * 2, none⟩ : Addr).block < _ from HL.out)).trans I0.out
    have q1 := (hSw.cell (show (⟨gl, i * 2 + 1, none⟩ : Addr).block < _ from HL.out)).trans I1.out
    have q2 := (hSw.cell (show (⟨gl, j * 2, none⟩ : Addr).block < _ from HL.out)).trans J0.out
    have q3 := (hSw.cell (show (⟨gl, j * 2 + 1, none⟩ : Addr).block < _ from HL.out)).trans J1.out
    (try go_simp)
    (try with_reducible rfl)
  (try simp only [Act.put, List.setIfInBounds_toArray, List.set_cons_zero, List.set_cons_succ])
  refine wpAnyH_take (i := 8) (oi := ({ dst := some 15, op := Op.move (Operand.tmp 0), type := 98, pos := "values.go:22", after := #[], guard := none } : Oper)) (v := ?_) rfl (by kernel_rfl) (by kernel_rfl) (by kernel_rfl) (fun _ _ _ h => h) (Or.inl ⟨by rfl, ?_⟩) (by assumption) ?_
  rotate_left 1
  · intro v hSw
    replace hSw : Below w.heap.size w v := hSw
    have q4 := (hSw.cell (show (⟨g, 4, none⟩ : Addr).block < _ from HG.out)).trans C4.out
    have q0 := (hSw.cell (show (⟨gl, i * 2, none⟩ : Addr).block < _ from HL.out)).trans I0.out
    have q1 := (hSw.cell (show (⟨gl, i * 2 + 1, none⟩ : Addr).block < _ from HL.out)).trans I1.out
    have q2 := (hSw.cell (show (⟨gl, j * 2, none⟩ : Addr).block < _ from HL.out)).trans J0.out
    have q3 := (hSw.cell (show (⟨gl, j * 2 + 1, none⟩ : Addr).block < _ from HL.out)).trans J1.out
    (try go_simp)
    (try with_reducible rfl)
  (try simp only [Act.put, List.setIfInBounds_toArray, List.set_cons_zero, List.set_cons_succ])
  refine wpAnyH_take (i := 9) (oi := ({ dst := some 16, op := Op.nilCheck (Operand.tmp 15), type := 0, pos := "values.go:22", after := #[{ on := 8, ground := Ground.data }], guard := none } : Oper)) (v := ?_) rfl (by kernel_rfl) (by kernel_rfl) (by kernel_rfl) (fun _ _ _ h => h) (Or.inl ⟨by rfl, ?_⟩) (by assumption) ?_
  rotate_left 1
  · intro v hSw
    replace hSw : Below w.heap.size w v := hSw
    have q4 := (hSw.cell (show (⟨g, 4, none⟩ : Addr).block < _ from HG.out)).trans C4.out
    have q0 := (hSw.cell (show (⟨gl, i * 2, none⟩ : Addr).block < _ from HL.out)).trans I0.out
    have q1 := (hSw.cell (show (⟨gl, i * 2 + 1, none⟩ : Addr).block < _ from HL.out)).trans I1.out
    have q2 := (hSw.cell (show (⟨gl, j * 2, none⟩ : Addr).block < _ from HL.out)).trans J0.out
    have q3 := (hSw.cell (show (⟨gl, j * 2 + 1, none⟩ : Addr).block < _ from HL.out)).trans J1.out
    (try go_simp)
    (try with_reducible rfl)
  (try simp only [Act.put, List.setIfInBounds_toArray, List.set_cons_zero, List.set_cons_succ])
  refine wpAnyH_take (i := 10) (oi := ({ dst := some 17, op := Op.fieldAddr 45 (Operand.tmp 16) 2, type := 0, pos := "values.go:22", after := #[{ on := 9, ground := Ground.data }], guard := none } : Oper)) (v := ?_) rfl (by kernel_rfl) (by kernel_rfl) (by kernel_rfl) (fun _ _ _ h => h) (Or.inl ⟨by rfl, ?_⟩) (by assumption) ?_
  rotate_left 1
  · intro v hSw
    replace hSw : Below w.heap.size w v := hSw
    have q4 := (hSw.cell (show (⟨g, 4, none⟩ : Addr).block < _ from HG.out)).trans C4.out
    have q0 := (hSw.cell (show (⟨gl, i * 2, none⟩ : Addr).block < _ from HL.out)).trans I0.out
    have q1 := (hSw.cell (show (⟨gl, i * 2 + 1, none⟩ : Addr).block < _ from HL.out)).trans I1.out
    have q2 := (hSw.cell (show (⟨gl, j * 2, none⟩ : Addr).block < _ from HL.out)).trans J0.out
    have q3 := (hSw.cell (show (⟨gl, j * 2 + 1, none⟩ : Addr).block < _ from HL.out)).trans J1.out
    (try go_simp)
    (try with_reducible rfl)
  (try simp only [Act.put, List.setIfInBounds_toArray, List.set_cons_zero, List.set_cons_succ])
  refine wpAnyH_take (i := 11) (oi := ({ dst := some 18, op := Op.load 22 (Operand.tmp 17), type := 22, pos := "values.go:22", after := #[{ on := 10, ground := Ground.data }], guard := none } : Oper)) (v := ?_) rfl (by kernel_rfl) (by kernel_rfl) (by kernel_rfl) (fun _ _ _ h => h) (Or.inl ⟨by rfl, ?_⟩) (by assumption) ?_
  rotate_left 1
  · intro v hSw
    replace hSw : Below w.heap.size w v := hSw
    have q4 := (hSw.cell (show (⟨g, 4, none⟩ : Addr).block < _ from HG.out)).trans C4.out
    have q0 := (hSw.cell (show (⟨gl, i * 2, none⟩ : Addr).block < _ from HL.out)).trans I0.out
    have q1 := (hSw.cell (show (⟨gl, i * 2 + 1, none⟩ : Addr).block < _ from HL.out)).trans I1.out
    have q2 := (hSw.cell (show (⟨gl, j * 2, none⟩ : Addr).block < _ from HL.out)).trans J0.out
    have q3 := (hSw.cell (show (⟨gl, j * 2 + 1, none⟩ : Addr).block < _ from HL.out)).trans J1.out
    (try go_simp)
    (try with_reducible rfl)
  (try simp only [Act.put, List.setIfInBounds_toArray, List.set_cons_zero, List.set_cons_succ])
  refine wpAnyH_take (i := 12) (oi := ({ dst := some 19, op := Op.move (Operand.tmp 2), type := 3, pos := "values.go:22", after := #[], guard := none } : Oper)) (v := ?_) rfl (by kernel_rfl) (by kernel_rfl) (by kernel_rfl) (fun _ _ _ h => h) (Or.inl ⟨by rfl, ?_⟩) (by assumption) ?_
  rotate_left 1
  · intro v hSw
    replace hSw : Below w.heap.size w v := hSw
    have q4 := (hSw.cell (show (⟨g, 4, none⟩ : Addr).block < _ from HG.out)).trans C4.out
    have q0 := (hSw.cell (show (⟨gl, i * 2, none⟩ : Addr).block < _ from HL.out)).trans I0.out
    have q1 := (hSw.cell (show (⟨gl, i * 2 + 1, none⟩ : Addr).block < _ from HL.out)).trans I1.out
    have q2 := (hSw.cell (show (⟨gl, j * 2, none⟩ : Addr).block < _ from HL.out)).trans J0.out
    have q3 := (hSw.cell (show (⟨gl, j * 2 + 1, none⟩ : Addr).block < _ from HL.out)).trans J1.out
    (try go_simp)
    (try with_reducible rfl)
  (try simp only [Act.put, List.setIfInBounds_toArray, List.set_cons_zero, List.set_cons_succ])
  refine wpAnyH_take (i := 13) (oi := ({ dst := some 20, op := Op.indexAddr 22 (Operand.tmp 18) (Operand.tmp 19), type := 0, pos := "values.go:22", after := #[{ on := 11, ground := Ground.data }, { on := 12, ground := Ground.data }], guard := none } : Oper)) (v := ?_) rfl (by kernel_rfl) (by kernel_rfl) (by kernel_rfl) (fun _ _ _ h => h) (Or.inl ⟨by rfl, ?_⟩) (by assumption) ?_
  rotate_left 1
  · intro v hSw
    replace hSw : Below w.heap.size w v := hSw
    have q4 := (hSw.cell (show (⟨g, 4, none⟩ : Addr).block < _ from HG.out)).trans C4.out
    have q0 := (hSw.cell (show (⟨gl, i * 2, none⟩ : Addr).block < _ from HL.out)).trans I0.out
    have q1 := (hSw.cell (show (⟨gl, i * 2 + 1, none⟩ : Addr).block < _ from HL.out)).trans I1.out
    have q2 := (hSw.cell (show (⟨gl, j * 2, none⟩ : Addr).block < _ from HL.out)).trans J0.out
    have q3 := (hSw.cell (show (⟨gl, j * 2 + 1, none⟩ : Addr).block < _ from HL.out)).trans J1.out
    (try go_simp)
    (try with_reducible rfl)
  (try simp only [Act.put, List.setIfInBounds_toArray, List.set_cons_zero, List.set_cons_succ])
  refine wpAnyH_take (i := 14) (oi := ({ dst := some 21, op := Op.load 64 (Operand.tmp 20), type := 64, pos := "values.go:22", after := #[{ on := 13, ground := Ground.data }], guard := none } : Oper)) (v := ?_) rfl (by kernel_rfl) (by kernel_rfl) (by kernel_rfl) (fun _ _ _ h => h) (Or.inl ⟨by rfl, ?_⟩) (by assumption) ?_
  rotate_left 1
  · intro v hSw
    replace hSw : Below w.heap.size w v := hSw
    have q4 := (hSw.cell (show (⟨g, 4, none⟩ : Addr).block < _ from HG.out)).trans C4.out
    have q0 := (hSw.cell (show (⟨gl, i * 2, none⟩ : Addr).block < _ from HL.out)).trans I0.out
    have q1 := (hSw.cell (show (⟨gl, i * 2 + 1, none⟩ : Addr).block < _ from HL.out)).trans I1.out
    have q2 := (hSw.cell (show (⟨gl, j * 2, none⟩ : Addr).block < _ from HL.out)).trans J0.out
    have q3 := (hSw.cell (show (⟨gl, j * 2 + 1, none⟩ : Addr).block < _ from HL.out)).trans J1.out
    (try go_simp)
    (try with_reducible rfl)
  (try simp only [Act.put, List.setIfInBounds_toArray, List.set_cons_zero, List.set_cons_succ])
  refine wpAnyH_ready (rs := [15]) (by kernel_rfl) (by simp) ?_
  refine AllReadyH.cons (o := ({ dst := some 22, op := Op.call { callee := Callee.value (Operand.func 39), args := #[Operand.tmp 7, Operand.tmp 14, Operand.tmp 21], argTypes := #[98, 64, 64] }, type := 3, pos := "values.go:22", after := #[{ on := 0, ground := Ground.data }, { on := 7, ground := Ground.data }, { on := 14, ground := Ground.data }], guard := none } : Oper)) rfl (fun K hK => ?_) (AllReadyH.nil)
  go_simp
  refine (HS.out X0 ((hHeld.block _ HG.out).trans HR.out)).mono ?_
  rintro e X1 ⟨rfl, hc⟩
  have hH1 : Below w.heap.size w X1 := bt hHeld hHeld.size hc
  refine hK.out _ _ hH1 (fun _ => ?_)
  clear hK K
  (try simp only [Act.put, List.setIfInBounds_toArray, List.set_cons_zero, List.set_cons_succ])
  refine wpAnyH_take (i := 16) (oi := ({ dst := some 23, op := Op.binOp BinOp.lss 3 (Operand.tmp 22) (Operand.const (Value.int IntKind.i64 0)) 3, type := 4, pos := "values.go:22", after := #[{ on := 15, ground := Ground.data }], guard := none } : Oper)) (v := ?_) rfl (by kernel_rfl) (by kernel_rfl) (by kernel_rfl) (fun _ _ _ h => h) (Or.inl ⟨by rfl, ?_⟩) (by assumption) ?_
  rotate_left 1
  · intro v hSw
    (try go_simp)
    (try with_reducible rfl)
  (try simp only [Act.put, List.setIfInBounds_toArray, List.set_cons_zero, List.set_cons_succ])
  refine wpAnyH_take (i := 17) (oi := ({ dst := some 6, op := Op.assign (Operand.tmp 23), type := 4, pos := "values.go:22", after := #[{ on := 16, ground := Ground.data }, { on := 15, ground := Ground.chain }, { on := 0, ground := Ground.phase }, { on := 1, ground := Ground.phase }, { on := 2, ground := Ground.phase }, { on := 3, ground := Ground.phase }, { on := 4, ground := Ground.phase }, { on := 5, ground := Ground.phase }, { on := 6, ground := Ground.phase }, { on := 7, ground := Ground.phase }, { on := 8, ground := Ground.phase }, { on := 9, ground := Ground.phase }, { on := 10, ground := Ground.phase }, { on := 11, ground := Ground.phase }, { on := 12, ground := Ground.phase }, { on := 13, ground := Ground.phase }, { on := 14, ground := Ground.phase }, { on := 15, ground := Ground.phase }, { on := 16, ground := Ground.phase }], guard := none } : Oper)) (v := ?_) rfl (by kernel_rfl) (by kernel_rfl) (by kernel_rfl) (fun _ _ _ h => h) (Or.inl ⟨by rfl, ?_⟩) (by assumption) ?_
  rotate_left 1
  · intro v hSw
    (try go_simp)
    (try with_reducible rfl)
  (try simp only [Act.put, List.setIfInBounds_toArray, List.set_cons_zero, List.set_cons_succ])
  refine wpAnyH_done (by kernel_rfl) ?_ _
  refine NoPanic.normal ?_
  go_wp2_with fail
  go_ret
  exact ⟨by rw [HV.out]; rfl, hH1⟩
end Go.Proofs.Ytdkfaepmgennjaa
