/- The library's insertion sort, asked by the method value of a queue's compare. -/
import Derived.Test.YtdkfaepmgennjaaHpSwap
import Derived.Test.YtdkfaepmgennjaaHpMeth2
import Derived.Deep.QuietTactic
import Derived.BigQuiet
namespace Go.Proofs.Ytdkfaepmgennjaa
open Go.RowKit
open H (IT)
set_option linter.unusedSimpArgs false
set_option maxRecDepth 100000
namespace H
def ins (ord : Int → Int → Bool) : Nat → List IT → List IT
  | 0, l => l
  | j + 1, l => if lt ord (at_ l (j + 1)) (at_ l j) = true then ins ord j (sw l (j + 1) j) else l
def isort (ord : Int → Int → Bool) : Nat → List IT → List IT
  | 0, l => l
  | i + 1, l => ins ord i (isort ord i l)
theorem ins_len (ord : Int → Int → Bool) : ∀ (j : Nat) (l : List IT), (ins ord j l).length = l.length
  | 0, _ => rfl
  | j + 1, l => by
    unfold ins
    split
    · rw [ins_len ord j, sw_len]
    · rfl
theorem isort_len (ord : Int → Int → Bool) : ∀ (i : Nat) (l : List IT), (isort ord i l).length = l.length
  | 0, _ => rfl
  | i + 1, l => by
    unfold isort
    rw [ins_len, isort_len ord i]
end H
/-- What the sort keeps: the queue's block; its own list in block gd. -/
structure IS (w : World) (g gd n cap : Nat) (row : Obj) (wr : World) (d : List IT) : Prop where
  row : wr.heap[g]? = some row
  own : OwnIt wr (.slice (some ⟨gd, 0, none⟩) n cap) d
  len : d.length = n
  gr : w.grownBy wr (some gd)
theorem grown_below {a w w' : World} {r : Option Nat} (h : a.grownBy w r) (hb : Below w.heap.size w w') : a.grownBy w' r :=
  ⟨hb.os.trans h.os, hb.tape.trans h.tape, hb.output.trans h.output, Nat.le_trans h.size hb.size, fun k hk hne => by rw [hb.block k (Nat.lt_of_lt_of_le hk h.size)]; exact h.block k hk hne⟩
theorem grown_trans {a w w' : World} {r : Option Nat} (h : a.grownBy w r) (hb : w.grownBy w' r) : a.grownBy w' r :=
  ⟨hb.os.trans h.os, hb.tape.trans h.tape, hb.output.trans h.output, Nat.le_trans h.size hb.size, fun k hk hne => by rw [hb.block k (Nat.lt_of_lt_of_le hk h.size) hne]; exact h.block k hk hne⟩
theorem IS.on {w wr wr' : World} {g gd n cap : Nat} {row : Obj} {d : List IT} (h : IS w g gd n cap row wr d) (hb : Below wr.heap.size wr wr') : IS w g gd n cap row wr' d :=
  ⟨(hb.block _ (Array.getElem?_eq_some_iff.1 h.row).1).trans h.row, h.own.below hb, h.len, grown_below h.gr hb⟩
set_option maxHeartbeats 4000000 in
theorem ISort_any (nf : Nat) (ord : Int → Int → Bool) (ho : OrdN nf ord) (g gd n cap : Nat) (s lst mp : Value) (nx : Int) (d : List IT) (w : World) (hg : w.heap[g]? = some (rowQ s nx (.func (.func nf) #[] #[]) false lst mp)) (hne : gd ≠ g)
    (hl : OwnIt w (.slice (some ⟨gd, 0, none⟩) n cap) d) (hn : d.length = n) (h12 : n ≤ 12) :
    Calls Try.prog 79 #[(.slice (some ⟨gd, 0, none⟩) n cap), .int .i64 0, .int .i64 n, (.func (.func 39) #[.pointer (some ⟨g, 2, none⟩)] #[])] w fun e w' => e = .returned (.tuple #[]) ∧ IS w g gd n cap (rowQ s nx (.func (.func nf) #[] #[]) false lst mp) w' (H.isort ord n d) := by
  have HO := Lib.hid ho
  have HI : Hid (IS w g gd n cap (rowQ s nx (.func (.func nf) #[] #[]) false lst mp) w d) := Lib.hid ⟨hg, hl, hn, ⟨rfl, rfl, rfl, Nat.le_refl _, fun _ _ _ => rfl⟩⟩
  have HN := Lib.hid hn
  have HNE := Lib.hid hne
  clear ho hg hl hn hne
  go_enter Try.func79, Try.ntmps79
  go_wp2_with fail
  go_loopw [8] (fun i wr => ∃ k : Nat, 1 ≤ k ∧ (k ≤ n ∨ k = 1) ∧ i = .int .i64 k ∧ Hid (IS w g gd n cap (rowQ s nx (.func (.func nf) #[] #[]) false lst mp) wr (H.isort ord k d))) (fun i _ => n - (intOf i).toNat)
  case atStart => exact ⟨1, by omega, .inr rfl, rfl, HI⟩
  case round =>
    obtain ⟨k, hk1, hkn, rfl, hI⟩ := hrel
    by_cases hlt : k < n
    · obtain ⟨wo, rfl⟩ : ∃ wo, wo = wr := ⟨_, rfl⟩
      have HIo := hI
      clear hI
      go_wp2_with fail
      go_loopw [9] (fun i wr => ∃ (j : Nat) (dk : List IT), j ≤ k ∧ i = .int .i64 j ∧ Hid (IS w g gd n cap (rowQ s nx (.func (.func nf) #[] #[]) false lst mp) wr dk) ∧ Hid (H.isort ord (k + 1) d = H.ins ord j dk)) (fun i _ => (intOf i).toNat)
      case atStart => exact ⟨k, _, Nat.le_refl _, rfl, HIo, Lib.hid rfl⟩
      case round =>
        obtain ⟨j, dk, hj, rfl, hJ, hE⟩ := hrel
        rcases Nat.eq_zero_or_pos j with rfl | hj0
        · have HF : Hid (IS w g gd n cap (rowQ s nx (.func (.func nf) #[] #[]) false lst mp) wr (H.isort ord (k + 1) d)) := Lib.hid (by rw [hE.out]; exact hJ.out)
          clear hJ hE HIo
          go_wp2_with fail
          go_quiet (fail)
          go_wp2_with fail
          go_roundw
          case rel => exact ⟨k + 1, by omega, .inl (by omega), by go_num, Lib.hid (HF.out.on (below_dn_ (Below.refl _ _) _))⟩
          case measure => simp [intOf]; omega
        · obtain ⟨j, rfl⟩ : ∃ j', j = j' + 1 := ⟨j - 1, by omega⟩
          have hj1 : j + 1 < dk.length := by rw [hJ.out.len]; omega
          have hj2 : j < dk.length := by omega
          obtain ⟨hgl, a0, a1⟩ := hJ.out.own.at_ hj1
          obtain ⟨-, b0, b1⟩ := hJ.out.own.at_ hj2
          obtain ⟨⟨h1, v1⟩, e1⟩ : ∃ x, dk[j + 1] = x := ⟨_, rfl⟩
          obtain ⟨⟨h2, v2⟩, e2⟩ : ∃ x, dk[j] = x := ⟨_, rfl⟩
          rw [e1] at a0 a1
          rw [e2] at b0 b1
          have A0 := Lib.hid a0
          have A1 := Lib.hid a1
          have B0 := Lib.hid b0
          have B1 := Lib.hid b1
          have HG := Lib.hid hgl
          have Ej1 := Lib.hid e1
          have Ej2 := Lib.hid e2
          have q1 : (0 : Int) < (j : Int) + 1 := by omega
          have q2 : (j : Int) + 1 < (n : Int) := by omega
          have q3 : (j : Int) < (n : Int) := by omega
          have q4 : ((j : Int) + 1).toNat = j + 1 := by omega
          have q5 : (j : Int) + 1 - 1 = (j : Int) := by omega
          have q6 : (0 : Int) ≤ (j : Int) + 1 := by omega
          have q7 : (0 : Int) ≤ (j : Int) := by omega
          have q8 : IntKind.i64.wrap (j : Int) = j := IntWalk.i64_in _ (by omega)
          clear a0 a1 b0 b1 hgl e1 e2 HIo
          go_wp2_with fail
          refine wp_region_noPanic ?_
          refine wp_region_held_drew (S := (fun v => Below wr.heap.size wr v)) (by kernel_rfl) (Below.refl wr.heap.size wr).drew (fun hHeld => ?_)
          replace hHeld : Below wr.heap.size wr wr.drew := hHeld
          generalize wr.drew = X0 at hHeld ⊢
          refine wpAnyH_take (i := 0) (oi := ({ dst := some 18, op := Op.move (Operand.tmp 9), type := 3, pos := "zsortanyfunc.go:12", after := #[], guard := none } : Oper)) (v := ?_) rfl (by kernel_rfl) (by kernel_rfl) (by kernel_rfl) (fun _ _ _ h => h) (Or.inl ⟨by rfl, ?_⟩) (by assumption) ?_
          rotate_left 1
          · intro v hSw
            replace hSw : Below wr.heap.size wr v := hSw
            have s0 := (hSw.cell (show (⟨gd, (j + 1) * 2, none⟩ : Addr).block < _ from HG.out)).trans A0.out
            have s1 := (hSw.cell (show (⟨gd, (j + 1) * 2 + 1, none⟩ : Addr).block < _ from HG.out)).trans A1.out
            have s2 := (hSw.cell (show (⟨gd, j * 2, none⟩ : Addr).block < _ from HG.out)).trans B0.out
            have s3 := (hSw.cell (show (⟨gd, j * 2 + 1, none⟩ : Addr).block < _ from HG.out)).trans B1.out
            (try go_simp)
            (try with_reducible rfl)
          (try simp only [Act.put, List.setIfInBounds_toArray, List.set_cons_zero, List.set_cons_succ])
          refine wpAnyH_take (i := 1) (oi := ({ dst := some 19, op := Op.move (Operand.tmp 1), type := 3, pos := "zsortanyfunc.go:12", after := #[], guard := none } : Oper)) (v := ?_) rfl (by kernel_rfl) (by kernel_rfl) (by kernel_rfl) (fun _ _ _ h => h) (Or.inl ⟨by rfl, ?_⟩) (by assumption) ?_
          rotate_left 1
          · intro v hSw
            replace hSw : Below wr.heap.size wr v := hSw
            have s0 := (hSw.cell (show (⟨gd, (j + 1) * 2, none⟩ : Addr).block < _ from HG.out)).trans A0.out
            have s1 := (hSw.cell (show (⟨gd, (j + 1) * 2 + 1, none⟩ : Addr).block < _ from HG.out)).trans A1.out
            have s2 := (hSw.cell (show (⟨gd, j * 2, none⟩ : Addr).block < _ from HG.out)).trans B0.out
            have s3 := (hSw.cell (show (⟨gd, j * 2 + 1, none⟩ : Addr).block < _ from HG.out)).trans B1.out
            (try go_simp)
            (try with_reducible rfl)
          (try simp only [Act.put, List.setIfInBounds_toArray, List.set_cons_zero, List.set_cons_succ])
          refine wpAnyH_take (i := 2) (oi := ({ dst := some 20, op := Op.binOp BinOp.gtr 3 (Operand.tmp 18) (Operand.tmp 19) 3, type := 4, pos := "zsortanyfunc.go:12", after := #[{ on := 0, ground := Ground.data }, { on := 1, ground := Ground.data }], guard := none } : Oper)) (v := ?_) rfl (by kernel_rfl) (by kernel_rfl) (by kernel_rfl) (fun _ _ _ h => h) (Or.inl ⟨by rfl, ?_⟩) (by assumption) ?_
          rotate_left 1
          · intro v hSw
            replace hSw : Below wr.heap.size wr v := hSw
            have s0 := (hSw.cell (show (⟨gd, (j + 1) * 2, none⟩ : Addr).block < _ from HG.out)).trans A0.out
            have s1 := (hSw.cell (show (⟨gd, (j + 1) * 2 + 1, none⟩ : Addr).block < _ from HG.out)).trans A1.out
            have s2 := (hSw.cell (show (⟨gd, j * 2, none⟩ : Addr).block < _ from HG.out)).trans B0.out
            have s3 := (hSw.cell (show (⟨gd, j * 2 + 1, none⟩ : Addr).block < _ from HG.out)).trans B1.out
            (try go_simp)
            (try with_reducible rfl)
          (try simp only [Act.put, List.setIfInBounds_toArray, List.set_cons_zero, List.set_cons_succ])
          refine wpAnyH_take (i := 3) (oi := ({ dst := some 21, op := Op.move (Operand.tmp 20), type := 4, pos := "zsortanyfunc.go:12", after := #[{ on := 2, ground := Ground.data }], guard := none } : Oper)) (v := ?_) rfl (by kernel_rfl) (by kernel_rfl) (by kernel_rfl) (fun _ _ _ h => h) (Or.inl ⟨by rfl, ?_⟩) (by assumption) ?_
          rotate_left 1
          · intro v hSw
            replace hSw : Below wr.heap.size wr v := hSw
            have s0 := (hSw.cell (show (⟨gd, (j + 1) * 2, none⟩ : Addr).block < _ from HG.out)).trans A0.out
            have s1 := (hSw.cell (show (⟨gd, (j + 1) * 2 + 1, none⟩ : Addr).block < _ from HG.out)).trans A1.out
            have s2 := (hSw.cell (show (⟨gd, j * 2, none⟩ : Addr).block < _ from HG.out)).trans B0.out
            have s3 := (hSw.cell (show (⟨gd, j * 2 + 1, none⟩ : Addr).block < _ from HG.out)).trans B1.out
            (try go_simp)
            (try with_reducible rfl)
          (try simp only [Act.put, List.setIfInBounds_toArray, List.set_cons_zero, List.set_cons_succ])
          refine wpAnyH_take (i := 4) (oi := ({ dst := some 22, op := Op.move (Operand.tmp 3), type := 83, pos := "zsortanyfunc.go:12", after := #[{ on := 3, ground := Ground.guard }], guard := some (3, true) } : Oper)) (v := ?_) rfl (by kernel_rfl) (by kernel_rfl) (by kernel_rfl) (fun _ _ _ h => h) (Or.inl ⟨by rfl, ?_⟩) (by assumption) ?_
          rotate_left 1
          · intro v hSw
            replace hSw : Below wr.heap.size wr v := hSw
            have s0 := (hSw.cell (show (⟨gd, (j + 1) * 2, none⟩ : Addr).block < _ from HG.out)).trans A0.out
            have s1 := (hSw.cell (show (⟨gd, (j + 1) * 2 + 1, none⟩ : Addr).block < _ from HG.out)).trans A1.out
            have s2 := (hSw.cell (show (⟨gd, j * 2, none⟩ : Addr).block < _ from HG.out)).trans B0.out
            have s3 := (hSw.cell (show (⟨gd, j * 2 + 1, none⟩ : Addr).block < _ from HG.out)).trans B1.out
            (try go_simp)
            (try with_reducible rfl)
          (try simp only [Act.put, List.setIfInBounds_toArray, List.set_cons_zero, List.set_cons_succ])
          refine wpAnyH_take (i := 5) (oi := ({ dst := some 23, op := Op.move (Operand.tmp 0), type := 22, pos := "zsortanyfunc.go:12", after := #[{ on := 3, ground := Ground.guard }], guard := some (3, true) } : Oper)) (v := ?_) rfl (by kernel_rfl) (by kernel_rfl) (by kernel_rfl) (fun _ _ _ h => h) (Or.inl ⟨by rfl, ?_⟩) (by assumption) ?_
          rotate_left 1
          · intro v hSw
            replace hSw : Below wr.heap.size wr v := hSw
            have s0 := (hSw.cell (show (⟨gd, (j + 1) * 2, none⟩ : Addr).block < _ from HG.out)).trans A0.out
            have s1 := (hSw.cell (show (⟨gd, (j + 1) * 2 + 1, none⟩ : Addr).block < _ from HG.out)).trans A1.out
            have s2 := (hSw.cell (show (⟨gd, j * 2, none⟩ : Addr).block < _ from HG.out)).trans B0.out
            have s3 := (hSw.cell (show (⟨gd, j * 2 + 1, none⟩ : Addr).block < _ from HG.out)).trans B1.out
            (try go_simp)
            (try with_reducible rfl)
          (try simp only [Act.put, List.setIfInBounds_toArray, List.set_cons_zero, List.set_cons_succ])
          refine wpAnyH_take (i := 6) (oi := ({ dst := some 24, op := Op.move (Operand.tmp 9), type := 3, pos := "zsortanyfunc.go:12", after := #[{ on := 3, ground := Ground.guard }], guard := some (3, true) } : Oper)) (v := ?_) rfl (by kernel_rfl) (by kernel_rfl) (by kernel_rfl) (fun _ _ _ h => h) (Or.inl ⟨by rfl, ?_⟩) (by assumption) ?_
          rotate_left 1
          · intro v hSw
            replace hSw : Below wr.heap.size wr v := hSw
            have s0 := (hSw.cell (show (⟨gd, (j + 1) * 2, none⟩ : Addr).block < _ from HG.out)).trans A0.out
            have s1 := (hSw.cell (show (⟨gd, (j + 1) * 2 + 1, none⟩ : Addr).block < _ from HG.out)).trans A1.out
            have s2 := (hSw.cell (show (⟨gd, j * 2, none⟩ : Addr).block < _ from HG.out)).trans B0.out
            have s3 := (hSw.cell (show (⟨gd, j * 2 + 1, none⟩ : Addr).block < _ from HG.out)).trans B1.out
            (try go_simp)
            (try with_reducible rfl)
          (try simp only [Act.put, List.setIfInBounds_toArray, List.set_cons_zero, List.set_cons_succ])
          refine wpAnyH_take (i := 7) (oi := ({ dst := some 25, op := Op.indexAddr 22 (Operand.tmp 23) (Operand.tmp 24), type := 0, pos := "zsortanyfunc.go:12", after := #[{ on := 5, ground := Ground.data }, { on := 6, ground := Ground.data }, { on := 3, ground := Ground.guard }], guard := some (3, true) } : Oper)) (v := ?_) rfl (by kernel_rfl) (by kernel_rfl) (by kernel_rfl) (fun _ _ _ h => h) (Or.inl ⟨by rfl, ?_⟩) (by assumption) ?_
          rotate_left 1
          · intro v hSw
            replace hSw : Below wr.heap.size wr v := hSw
            have s0 := (hSw.cell (show (⟨gd, (j + 1) * 2, none⟩ : Addr).block < _ from HG.out)).trans A0.out
            have s1 := (hSw.cell (show (⟨gd, (j + 1) * 2 + 1, none⟩ : Addr).block < _ from HG.out)).trans A1.out
            have s2 := (hSw.cell (show (⟨gd, j * 2, none⟩ : Addr).block < _ from HG.out)).trans B0.out
            have s3 := (hSw.cell (show (⟨gd, j * 2 + 1, none⟩ : Addr).block < _ from HG.out)).trans B1.out
            (try go_simp)
            (try with_reducible rfl)
          (try simp only [Act.put, List.setIfInBounds_toArray, List.set_cons_zero, List.set_cons_succ])
          refine wpAnyH_take (i := 8) (oi := ({ dst := some 26, op := Op.load 64 (Operand.tmp 25), type := 64, pos := "zsortanyfunc.go:12", after := #[{ on := 7, ground := Ground.data }, { on := 3, ground := Ground.guard }], guard := some (3, true) } : Oper)) (v := ?_) rfl (by kernel_rfl) (by kernel_rfl) (by kernel_rfl) (fun _ _ _ h => h) (Or.inl ⟨by rfl, ?_⟩) (by assumption) ?_
          rotate_left 1
          · intro v hSw
            replace hSw : Below wr.heap.size wr v := hSw
            have s0 := (hSw.cell (show (⟨gd, (j + 1) * 2, none⟩ : Addr).block < _ from HG.out)).trans A0.out
            have s1 := (hSw.cell (show (⟨gd, (j + 1) * 2 + 1, none⟩ : Addr).block < _ from HG.out)).trans A1.out
            have s2 := (hSw.cell (show (⟨gd, j * 2, none⟩ : Addr).block < _ from HG.out)).trans B0.out
            have s3 := (hSw.cell (show (⟨gd, j * 2 + 1, none⟩ : Addr).block < _ from HG.out)).trans B1.out
            (try go_simp)
            (try with_reducible rfl)
          (try simp only [Act.put, List.setIfInBounds_toArray, List.set_cons_zero, List.set_cons_succ])
          refine wpAnyH_take (i := 9) (oi := ({ dst := some 27, op := Op.move (Operand.tmp 0), type := 22, pos := "zsortanyfunc.go:12", after := #[{ on := 3, ground := Ground.guard }], guard := some (3, true) } : Oper)) (v := ?_) rfl (by kernel_rfl) (by kernel_rfl) (by kernel_rfl) (fun _ _ _ h => h) (Or.inl ⟨by rfl, ?_⟩) (by assumption) ?_
          rotate_left 1
          · intro v hSw
            replace hSw : Below wr.heap.size wr v := hSw
            have s0 := (hSw.cell (show (⟨gd, (j + 1) * 2, none⟩ : Addr).block < _ from HG.out)).trans A0.out
            have s1 := (hSw.cell (show (⟨gd, (j + 1) * 2 + 1, none⟩ : Addr).block < _ from HG.out)).trans A1.out
            have s2 := (hSw.cell (show (⟨gd, j * 2, none⟩ : Addr).block < _ from HG.out)).trans B0.out
            have s3 := (hSw.cell (show (⟨gd, j * 2 + 1, none⟩ : Addr).block < _ from HG.out)).trans B1.out
            (try go_simp)
            (try with_reducible rfl)
          (try simp only [Act.put, List.setIfInBounds_toArray, List.set_cons_zero, List.set_cons_succ])
          refine wpAnyH_take (i := 10) (oi := ({ dst := some 28, op := Op.move (Operand.tmp 9), type := 3, pos := "zsortanyfunc.go:12", after := #[{ on := 3, ground := Ground.guard }], guard := some (3, true) } : Oper)) (v := ?_) rfl (by kernel_rfl) (by kernel_rfl) (by kernel_rfl) (fun _ _ _ h => h) (Or.inl ⟨by rfl, ?_⟩) (by assumption) ?_
          rotate_left 1
          · intro v hSw
            replace hSw : Below wr.heap.size wr v := hSw
            have s0 := (hSw.cell (show (⟨gd, (j + 1) * 2, none⟩ : Addr).block < _ from HG.out)).trans A0.out
            have s1 := (hSw.cell (show (⟨gd, (j + 1) * 2 + 1, none⟩ : Addr).block < _ from HG.out)).trans A1.out
            have s2 := (hSw.cell (show (⟨gd, j * 2, none⟩ : Addr).block < _ from HG.out)).trans B0.out
            have s3 := (hSw.cell (show (⟨gd, j * 2 + 1, none⟩ : Addr).block < _ from HG.out)).trans B1.out
            (try go_simp)
            (try with_reducible rfl)
          (try simp only [Act.put, List.setIfInBounds_toArray, List.set_cons_zero, List.set_cons_succ])
          refine wpAnyH_take (i := 11) (oi := ({ dst := some 29, op := Op.binOp BinOp.sub 3 (Operand.tmp 28) (Operand.const (Value.int IntKind.i64 1)) 3, type := 3, pos := "zsortanyfunc.go:12", after := #[{ on := 10, ground := Ground.data }, { on := 3, ground := Ground.guard }], guard := some (3, true) } : Oper)) (v := ?_) rfl (by kernel_rfl) (by kernel_rfl) (by kernel_rfl) (fun _ _ _ h => h) (Or.inl ⟨by rfl, ?_⟩) (by assumption) ?_
          rotate_left 1
          · intro v hSw
            replace hSw : Below wr.heap.size wr v := hSw
            have s0 := (hSw.cell (show (⟨gd, (j + 1) * 2, none⟩ : Addr).block < _ from HG.out)).trans A0.out
            have s1 := (hSw.cell (show (⟨gd, (j + 1) * 2 + 1, none⟩ : Addr).block < _ from HG.out)).trans A1.out
            have s2 := (hSw.cell (show (⟨gd, j * 2, none⟩ : Addr).block < _ from HG.out)).trans B0.out
            have s3 := (hSw.cell (show (⟨gd, j * 2 + 1, none⟩ : Addr).block < _ from HG.out)).trans B1.out
            (try go_simp)
            (try with_reducible rfl)
          (try simp only [Act.put, List.setIfInBounds_toArray, List.set_cons_zero, List.set_cons_succ])
          refine wpAnyH_take (i := 12) (oi := ({ dst := some 30, op := Op.indexAddr 22 (Operand.tmp 27) (Operand.tmp 29), type := 0, pos := "zsortanyfunc.go:12", after := #[{ on := 9, ground := Ground.data }, { on := 11, ground := Ground.data }, { on := 3, ground := Ground.guard }], guard := some (3, true) } : Oper)) (v := ?_) rfl (by kernel_rfl) (by kernel_rfl) (by kernel_rfl) (fun _ _ _ h => h) (Or.inl ⟨by rfl, ?_⟩) (by assumption) ?_
          rotate_left 1
          · intro v hSw
            replace hSw : Below wr.heap.size wr v := hSw
            have s0 := (hSw.cell (show (⟨gd, (j + 1) * 2, none⟩ : Addr).block < _ from HG.out)).trans A0.out
            have s1 := (hSw.cell (show (⟨gd, (j + 1) * 2 + 1, none⟩ : Addr).block < _ from HG.out)).trans A1.out
            have s2 := (hSw.cell (show (⟨gd, j * 2, none⟩ : Addr).block < _ from HG.out)).trans B0.out
            have s3 := (hSw.cell (show (⟨gd, j * 2 + 1, none⟩ : Addr).block < _ from HG.out)).trans B1.out
            (try go_simp)
            (try with_reducible rfl)
          (try simp only [Act.put, List.setIfInBounds_toArray, List.set_cons_zero, List.set_cons_succ])
          refine wpAnyH_take (i := 13) (oi := ({ dst := some 31, op := Op.load 64 (Operand.tmp 30), type := 64, pos := "zsortanyfunc.go:12", after := #[{ on := 12, ground := Ground.data }, { on := 3, ground := Ground.guard }], guard := some (3, true) } : Oper)) (v := ?_) rfl (by kernel_rfl) (by kernel_rfl) (by kernel_rfl) (fun _ _ _ h => h) (Or.inl ⟨by rfl, ?_⟩) (by assumption) ?_
          rotate_left 1
          · intro v hSw
            replace hSw : Below wr.heap.size wr v := hSw
            have s0 := (hSw.cell (show (⟨gd, (j + 1) * 2, none⟩ : Addr).block < _ from HG.out)).trans A0.out
            have s1 := (hSw.cell (show (⟨gd, (j + 1) * 2 + 1, none⟩ : Addr).block < _ from HG.out)).trans A1.out
            have s2 := (hSw.cell (show (⟨gd, j * 2, none⟩ : Addr).block < _ from HG.out)).trans B0.out
            have s3 := (hSw.cell (show (⟨gd, j * 2 + 1, none⟩ : Addr).block < _ from HG.out)).trans B1.out
            (try go_simp)
            (try with_reducible rfl)
          (try simp only [Act.put, List.setIfInBounds_toArray, List.set_cons_zero, List.set_cons_succ])
          refine wpAnyH_ready (rs := [14]) (by kernel_rfl) (by simp) ?_
          refine AllReadyH.cons (o := ({ dst := some 32, op := Op.call { callee := Callee.value (Operand.tmp 22), args := #[Operand.tmp 26, Operand.tmp 31], argTypes := #[64, 64] }, type := 3, pos := "zsortanyfunc.go:12", after := #[{ on := 4, ground := Ground.data }, { on := 8, ground := Ground.data }, { on := 13, ground := Ground.data }, { on := 3, ground := Ground.chain }, { on := 3, ground := Ground.guard }], guard := some (3, true) } : Oper)) rfl (fun K hK => ?_) (AllReadyH.nil)
          go_simp
          refine (compare_any nf ord HO.out.1 HO.out.2 g s lst mp nx h1 v1 h2 v2 X0 ((hHeld.block _ (Array.getElem?_eq_some_iff.1 hJ.out.row).1).trans hJ.out.row)).mono ?_
          rintro e X1 ⟨rfl, hc⟩
          have hH1 : Below wr.heap.size wr X1 := bt hHeld hHeld.size hc
          refine hK.out _ _ hH1 (fun _ => ?_)
          clear hK K
          (try simp only [Act.put, List.setIfInBounds_toArray, List.set_cons_zero, List.set_cons_succ])
          refine wpAnyH_take (i := 15) (oi := ({ dst := some 33, op := Op.binOp BinOp.lss 3 (Operand.tmp 32) (Operand.const (Value.int IntKind.i64 0)) 3, type := 4, pos := "zsortanyfunc.go:12", after := #[{ on := 14, ground := Ground.data }, { on := 3, ground := Ground.guard }], guard := some (3, true) } : Oper)) (v := ?_) rfl (by kernel_rfl) (by kernel_rfl) (by kernel_rfl) (fun _ _ _ h => h) (Or.inl ⟨by rfl, ?_⟩) (by assumption) ?_
          rotate_left 1
          · intro v hSw
            (try go_simp)
            (try with_reducible rfl)
          (try simp only [Act.put, List.setIfInBounds_toArray, List.set_cons_zero, List.set_cons_succ])
          refine wpAnyH_take (i := 16) (oi := ({ dst := some 34, op := Op.pick (Operand.tmp 21) (Operand.tmp 33) (Operand.const (Value.bool false)), type := 4, pos := "zsortanyfunc.go:12", after := #[{ on := 3, ground := Ground.data }, { on := 15, ground := Ground.data }], guard := none } : Oper)) (v := ?_) rfl (by kernel_rfl) (by kernel_rfl) (by kernel_rfl) (fun _ _ _ h => h) (Or.inl ⟨by rfl, ?_⟩) (by assumption) ?_
          rotate_left 1
          · intro v hSw
            (try go_simp)
            (try with_reducible rfl)
          (try simp only [Act.put, List.setIfInBounds_toArray, List.set_cons_zero, List.set_cons_succ])
          refine wpAnyH_done (by kernel_rfl) ?_ _
          refine NoPanic.normal ?_
          have HJ1 := Lib.hid (hJ.out.on hH1)
          have HLt : Hid (H.lt ord (dk[j + 1]) (dk[j]) = decide (H.cmpV ord (h1, v1) (h2, v2) < 0)) := Lib.hid (by rw [Ej1.out, Ej2.out]; rfl)
          have HIn : Hid (H.ins ord (j + 1) dk = if H.lt ord (dk[j + 1]) (dk[j]) = true then H.ins ord j (H.sw dk (j + 1) j) else dk) := Lib.hid (by rw [← H.at_eq hj1, ← H.at_eq hj2]; rfl)
          clear hHeld hH1 hc A0 A1 B0 B1 hJ
          generalize H.cmpV ord (h1, v1) (h2, v2) = cc at HLt ⊢
          by_cases hcc : cc < 0
          · have hd : decide (cc < 0) = true := decide_eq_true hcc
            have HE2 : Hid (H.isort ord (k + 1) d = H.ins ord j (H.sw dk (j + 1) j)) := Lib.hid (by rw [hE.out, HIn.out, HLt.out, hd]; rfl)
            obtain ⟨-, i0, i1⟩ := HJ1.out.own.at_ hj1
            obtain ⟨-, j0, j1⟩ := HJ1.out.own.at_ hj2
            rw [Ej1.out] at i0 i1
            rw [Ej2.out] at j0 j1
            have f0 := HJ1.out.own.frozen ((j + 1) * 2)
            have f1 := HJ1.out.own.frozen ((j + 1) * 2 + 1)
            have f2 := HJ1.out.own.frozen (j * 2)
            have f3 := HJ1.out.own.frozen (j * 2 + 1)
            obtain ⟨W1, eW, hO1, hG1⟩ := swap_laid (w := X1) HJ1.out.own hj1 hj2 Ej1.out Ej2.out
            have HEW := Lib.hid eW
            clear eW
            have d1 : ¬ j * 2 = (j + 1) * 2 := by omega
            have d2 : ¬ j * 2 = (j + 1) * 2 + 1 := by omega
            have d3 : ¬ j * 2 + 1 = (j + 1) * 2 := by omega
            have d4 : ¬ j * 2 + 1 = (j + 1) * 2 + 1 := by omega
            go_wp2_with fail
            go_region
            rw [HEW.out]
            have HW1 : Hid (IS w g gd n cap (rowQ s nx (.func (.func nf) #[] #[]) false lst mp) W1.drew (H.sw dk (j + 1) j)) := Lib.hid ⟨(hG1.block g (Array.getElem?_eq_some_iff.1 HJ1.out.row).1 (fun e => HNE.out (by injection e with e; exact e.symm))).trans HJ1.out.row, hO1, by rw [H.sw_len]; exact HJ1.out.len, gdrew (grown_trans HJ1.out.gr hG1)⟩
            clear HEW i0 i1 j0 j1 f0 f1 f2 f3 d1 d2 d3 d4 hO1 hG1 HJ1
            go_wp2_with fail
            go_roundw
            case rel => exact ⟨j, _, by omega, by go_num, HW1, HE2⟩
            case measure => simp [intOf]
          · have hd : decide (cc < 0) = false := decide_eq_false hcc
            have HF : Hid (IS w g gd n cap (rowQ s nx (.func (.func nf) #[] #[]) false lst mp) X1 (H.isort ord (k + 1) d)) := Lib.hid (by rw [hE.out, HIn.out, HLt.out, hd]; exact HJ1.out)
            clear HJ1
            go_wp2_with fail
            go_roundw
            case rel => exact ⟨k + 1, by omega, .inl (by omega), by go_num, HF⟩
            case measure => simp [intOf]; omega
    · have HF : Hid (IS w g gd n cap (rowQ s nx (.func (.func nf) #[] #[]) false lst mp) wr (H.isort ord n d)) := Lib.hid (by
        rcases hkn with h | h
        · have e : k = n := by omega
          subst e
          exact hI.out
        · subst h
          by_cases h0 : n = 1
          · rw [h0]
            have := hI.out
            rw [h0] at this
            exact this
          · obtain rfl : n = 0 := by omega
            exact hI.out)
      clear hI
      go_wp2_with fail
      go_end0
      exact ⟨rfl, HF.out⟩
end Go.Proofs.Ytdkfaepmgennjaa
