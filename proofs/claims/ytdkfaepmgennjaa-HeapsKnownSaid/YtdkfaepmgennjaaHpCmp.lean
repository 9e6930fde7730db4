/- compare and Less: which of two values of a queue comes first. -/
import Derived.Test.YtdkfaepmgennjaaHpSays
import Derived.OrdersHeld
import Derived.Deep.RegionHeld3
namespace Go.Proofs.Ytdkfaepmgennjaa
open Go.RowKit
set_option linter.unusedSimpArgs false
set_option maxRecDepth 100000
namespace H
/-- A value with its handle. -/
abbrev IT := Int × Int
def cmpI (x y : Int) : Int := if x < y then -1 else if y < x then 1 else 0
def cmpV (ord : Int → Int → Bool) (x y : IT) : Int := if ord x.2 y.2 = ord y.2 x.2 then cmpI x.1 y.1 else if ord x.2 y.2 = true then -1 else 1
def lt (ord : Int → Int → Bool) (x y : IT) : Bool := decide (cmpV ord x y < 0)
end H
open H (IT)
theorem two_laid (w : World) (o1 o2 : Obj) : ∃ W2, (w.alloc o1).alloc o2 = W2 ∧ W2.heap.size = w.heap.size + 2 ∧ Below w.heap.size w W2 ∧ W2.heap[w.heap.size]? = some o1 ∧ W2.heap[w.heap.size + 1]? = some o2 := by
  have z1 : (w.alloc o1).heap.size = w.heap.size + 1 := by simp
  have b2 := below_new (w.alloc o1) o2
  have h1 := heap_alloc_new w o1
  have h2 := heap_alloc_new (w.alloc o1) o2
  rw [z1] at b2 h2
  exact ⟨_, rfl, by simp, (below_new w o1).trans (b2.mono (by omega)), (b2.block _ (by omega)).trans h1, h2⟩
theorem Compare_any (x y : Int) (w : World) : Calls Try.prog 61 #[.int .i64 x, .int .i64 y] w fun e w' => e = .returned (.int .i64 (H.cmpI x y)) ∧ w = w' := by
  by_cases h1 : x < y
  · have H : Hid (H.cmpI x y = -1) := Lib.hid (by unfold H.cmpI; rw [if_pos h1])
    go_enter Try.func61, Try.ntmps61
    go_wp2
    go_ret
    rw [H.out]
    exact ⟨rfl, rfl⟩
  · by_cases h2 : y < x
    · have H : Hid (H.cmpI x y = 1) := Lib.hid (by unfold H.cmpI; rw [if_neg h1, if_pos h2])
      go_enter Try.func61, Try.ntmps61
      go_wp2
      go_ret
      rw [H.out]
      exact ⟨rfl, rfl⟩
    · have H : Hid (H.cmpI x y = 0) := Lib.hid (by unfold H.cmpI; rw [if_neg h1, if_neg h2])
      go_enter Try.func61, Try.ntmps61
      go_wp2
      go_ret
      rw [H.out]
      exact ⟨rfl, rfl⟩
set_option maxHeartbeats 1000000 in
theorem compare_any (n : Nat) (ord : Int → Int → Bool) (hn : n = 31 ∨ n = 36) (hord : OrdC n ord) (g : Nat) (s lst mp : Value) (nx : Int) (h va k vb : Int) (w : World) (hg : w.heap[g]? = some (rowQ s nx (.func (.func n) #[] #[]) false lst mp)) :
    Calls Try.prog 39 #[.pointer (some ⟨g, 2, none⟩), .agg #[.int .i64 h, .int .i64 va], .agg #[.int .i64 k, .int .i64 vb]] w fun e w' => e = .returned (.int .i64 (H.cmpV ord (h, va) (k, vb))) ∧ Below w.heap.size w w' := by
  have hgl : g < w.heap.size := (Array.getElem?_eq_some_iff.1 hg).1
  obtain ⟨W2, e2, z2, hb2, ra, rb⟩ := two_laid w (.cells #[.int .i64 h, .int .i64 va] 64) (.cells #[.int .i64 k, .int .i64 vb] 64)
  have SA := fun a b w hg => says_any n ord hn hord g s lst mp nx a b w hg
  have HS := Lib.hid SA
  have HC := Lib.hid (fun w => Compare_any h k w)
  have HV : Hid (H.cmpV ord (h, va) (k, vb) = if ord va vb = ord vb va then H.cmpI h k else if ord va vb = true then -1 else 1) := Lib.hid rfl
  have R2 := (hb2.block g hgl).trans hg
  have HR := Lib.hid R2
  have HA := Lib.hid ra
  have HB := Lib.hid rb
  have HB2 := Lib.hid hb2
  have Hlt : Hid (g < W2.heap.size ∧ w.heap.size < W2.heap.size ∧ w.heap.size + 1 < W2.heap.size) := Lib.hid (by omega)
  have HE := Lib.hid e2
  clear hg hgl z2 hb2 ra rb R2 SA hord e2
  go_enter Try.func39, Try.ntmps39
  go_wp2_with fail
  refine (congrArg (fun X => Code.wp Try.prog _ _ _ X) HE.out).mpr ?_
  clear HE
  refine wp_region_noPanic ?_
  refine wp_region_held_drew (S := (fun v => Below W2.heap.size W2 v)) (by kernel_rfl) (Below.refl W2.heap.size W2).drew (fun hHeld => ?_)
  replace hHeld : Below W2.heap.size W2 W2.drew := hHeld
  generalize W2.drew = X0 at hHeld ⊢
  refine wpAnyH_take (i := 0) (oi := ({ dst := some 9, op := Op.move (Operand.tmp 0), type := 98, pos := "values.go:56", after := #[], guard := none } : Oper)) (v := ?_) rfl (by kernel_rfl) (by kernel_rfl) (by kernel_rfl) (fun _ _ _ h => h) (Or.inl ⟨by rfl, ?_⟩) (by assumption) ?_
  rotate_left 1
  · intro v hSw
    replace hSw : Below W2.heap.size W2 v := hSw
    have q1 : v.cell? ⟨w.heap.size, 1, none⟩ = some (.int .i64 va) := by rw [cell_of_row _ _ _ _ _ _ ((hSw.block _ Hlt.out.2.1).trans HA.out)]; rfl
    have q3 : v.cell? ⟨w.heap.size + 1, 1, none⟩ = some (.int .i64 vb) := by rw [cell_of_row _ _ _ _ _ _ ((hSw.block _ Hlt.out.2.2).trans HB.out)]; rfl
    (try go_simp)
    (try with_reducible rfl)
  (try simp only [Act.put, List.setIfInBounds_toArray, List.set_cons_zero, List.set_cons_succ])
  refine wpAnyH_take (i := 1) (oi := ({ dst := some 10, op := Op.fieldAddr 64 (Operand.tmp 4) 1, type := 0, pos := "values.go:56", after := #[], guard := none } : Oper)) (v := ?_) rfl (by kernel_rfl) (by kernel_rfl) (by kernel_rfl) (fun _ _ _ h => h) (Or.inl ⟨by rfl, ?_⟩) (by assumption) ?_
  rotate_left 1
  · intro v hSw
    replace hSw : Below W2.heap.size W2 v := hSw
    have q1 : v.cell? ⟨w.heap.size, 1, none⟩ = some (.int .i64 va) := by rw [cell_of_row _ _ _ _ _ _ ((hSw.block _ Hlt.out.2.1).trans HA.out)]; rfl
    have q3 : v.cell? ⟨w.heap.size + 1, 1, none⟩ = some (.int .i64 vb) := by rw [cell_of_row _ _ _ _ _ _ ((hSw.block _ Hlt.out.2.2).trans HB.out)]; rfl
    (try go_simp)
    (try with_reducible rfl)
  (try simp only [Act.put, List.setIfInBounds_toArray, List.set_cons_zero, List.set_cons_succ])
  refine wpAnyH_take (i := 2) (oi := ({ dst := some 11, op := Op.load 3 (Operand.tmp 10), type := 3, pos := "values.go:56", after := #[{ on := 1, ground := Ground.data }], guard := none } : Oper)) (v := ?_) rfl (by kernel_rfl) (by kernel_rfl) (by kernel_rfl) (fun _ _ _ h => h) (Or.inl ⟨by rfl, ?_⟩) (by assumption) ?_
  rotate_left 1
  · intro v hSw
    replace hSw : Below W2.heap.size W2 v := hSw
    have q1 : v.cell? ⟨w.heap.size, 1, none⟩ = some (.int .i64 va) := by rw [cell_of_row _ _ _ _ _ _ ((hSw.block _ Hlt.out.2.1).trans HA.out)]; rfl
    have q3 : v.cell? ⟨w.heap.size + 1, 1, none⟩ = some (.int .i64 vb) := by rw [cell_of_row _ _ _ _ _ _ ((hSw.block _ Hlt.out.2.2).trans HB.out)]; rfl
    (try go_simp)
    (try with_reducible rfl)
  (try simp only [Act.put, List.setIfInBounds_toArray, List.set_cons_zero, List.set_cons_succ])
  refine wpAnyH_take (i := 3) (oi := ({ dst := some 12, op := Op.fieldAddr 64 (Operand.tmp 5) 1, type := 0, pos := "values.go:56", after := #[], guard := none } : Oper)) (v := ?_) rfl (by kernel_rfl) (by kernel_rfl) (by kernel_rfl) (fun _ _ _ h => h) (Or.inl ⟨by rfl, ?_⟩) (by assumption) ?_
  rotate_left 1
  · intro v hSw
    replace hSw : Below W2.heap.size W2 v := hSw
    have q1 : v.cell? ⟨w.heap.size, 1, none⟩ = some (.int .i64 va) := by rw [cell_of_row _ _ _ _ _ _ ((hSw.block _ Hlt.out.2.1).trans HA.out)]; rfl
    have q3 : v.cell? ⟨w.heap.size + 1, 1, none⟩ = some (.int .i64 vb) := by rw [cell_of_row _ _ _ _ _ _ ((hSw.block _ Hlt.out.2.2).trans HB.out)]; rfl
    (try go_simp)
    (try with_reducible rfl)
  (try simp only [Act.put, List.setIfInBounds_toArray, List.set_cons_zero, List.set_cons_succ])
  refine wpAnyH_take (i := 4) (oi := ({ dst := some 13, op := Op.load 3 (Operand.tmp 12), type := 3, pos := "values.go:56", after := #[{ on := 3, ground := Ground.data }], guard := none } : Oper)) (v := ?_) rfl (by kernel_rfl) (by kernel_rfl) (by kernel_rfl) (fun _ _ _ h => h) (Or.inl ⟨by rfl, ?_⟩) (by assumption) ?_
  rotate_left 1
  · intro v hSw
    replace hSw : Below W2.heap.size W2 v := hSw
    have q1 : v.cell? ⟨w.heap.size, 1, none⟩ = some (.int .i64 va) := by rw [cell_of_row _ _ _ _ _ _ ((hSw.block _ Hlt.out.2.1).trans HA.out)]; rfl
    have q3 : v.cell? ⟨w.heap.size + 1, 1, none⟩ = some (.int .i64 vb) := by rw [cell_of_row _ _ _ _ _ _ ((hSw.block _ Hlt.out.2.2).trans HB.out)]; rfl
    (try go_simp)
    (try with_reducible rfl)
  (try simp only [Act.put, List.setIfInBounds_toArray, List.set_cons_zero, List.set_cons_succ])
  refine wpAnyH_take (i := 6) (oi := ({ dst := some 15, op := Op.move (Operand.tmp 0), type := 98, pos := "values.go:56", after := #[], guard := none } : Oper)) (v := ?_) rfl (by kernel_rfl) (by kernel_rfl) (by kernel_rfl) (fun _ _ _ h => h) (Or.inl ⟨by rfl, ?_⟩) (by assumption) ?_
  rotate_left 1
  · intro v hSw
    replace hSw : Below W2.heap.size W2 v := hSw
    have q1 : v.cell? ⟨w.heap.size, 1, none⟩ = some (.int .i64 va) := by rw [cell_of_row _ _ _ _ _ _ ((hSw.block _ Hlt.out.2.1).trans HA.out)]; rfl
    have q3 : v.cell? ⟨w.heap.size + 1, 1, none⟩ = some (.int .i64 vb) := by rw [cell_of_row _ _ _ _ _ _ ((hSw.block _ Hlt.out.2.2).trans HB.out)]; rfl
    (try go_simp)
    (try with_reducible rfl)
  (try simp only [Act.put, List.setIfInBounds_toArray, List.set_cons_zero, List.set_cons_succ])
  refine wpAnyH_take (i := 7) (oi := ({ dst := some 16, op := Op.fieldAddr 64 (Operand.tmp 5) 1, type := 0, pos := "values.go:56", after := #[], guard := none } : Oper)) (v := ?_) rfl (by kernel_rfl) (by kernel_rfl) (by kernel_rfl) (fun _ _ _ h => h) (Or.inl ⟨by rfl, ?_⟩) (by assumption) ?_
  rotate_left 1
  · intro v hSw
    replace hSw : Below W2.heap.size W2 v := hSw
    have q1 : v.cell? ⟨w.heap.size, 1, none⟩ = some (.int .i64 va) := by rw [cell_of_row _ _ _ _ _ _ ((hSw.block _ Hlt.out.2.1).trans HA.out)]; rfl
    have q3 : v.cell? ⟨w.heap.size + 1, 1, none⟩ = some (.int .i64 vb) := by rw [cell_of_row _ _ _ _ _ _ ((hSw.block _ Hlt.out.2.2).trans HB.out)]; rfl
    (try go_simp)
    (try with_reducible rfl)
  (try simp only [Act.put, List.setIfInBounds_toArray, List.set_cons_zero, List.set_cons_succ])
  refine wpAnyH_take (i := 8) (oi := ({ dst := some 17, op := Op.load 3 (Operand.tmp 16), type := 3, pos := "values.go:56", after := #[{ on := 7, ground := Ground.data }], guard := none } : Oper)) (v := ?_) rfl (by kernel_rfl) (by kernel_rfl) (by kernel_rfl) (fun _ _ _ h => h) (Or.inl ⟨by rfl, ?_⟩) (by assumption) ?_
  rotate_left 1
  · intro v hSw
    replace hSw : Below W2.heap.size W2 v := hSw
    have q1 : v.cell? ⟨w.heap.size, 1, none⟩ = some (.int .i64 va) := by rw [cell_of_row _ _ _ _ _ _ ((hSw.block _ Hlt.out.2.1).trans HA.out)]; rfl
    have q3 : v.cell? ⟨w.heap.size + 1, 1, none⟩ = some (.int .i64 vb) := by rw [cell_of_row _ _ _ _ _ _ ((hSw.block _ Hlt.out.2.2).trans HB.out)]; rfl
    (try go_simp)
    (try with_reducible rfl)
  (try simp only [Act.put, List.setIfInBounds_toArray, List.set_cons_zero, List.set_cons_succ])
  refine wpAnyH_take (i := 9) (oi := ({ dst := some 18, op := Op.fieldAddr 64 (Operand.tmp 4) 1, type := 0, pos := "values.go:56", after := #[], guard := none } : Oper)) (v := ?_) rfl (by kernel_rfl) (by kernel_rfl) (by kernel_rfl) (fun _ _ _ h => h) (Or.inl ⟨by rfl, ?_⟩) (by assumption) ?_
  rotate_left 1
  · intro v hSw
    replace hSw : Below W2.heap.size W2 v := hSw
    have q1 : v.cell? ⟨w.heap.size, 1, none⟩ = some (.int .i64 va) := by rw [cell_of_row _ _ _ _ _ _ ((hSw.block _ Hlt.out.2.1).trans HA.out)]; rfl
    have q3 : v.cell? ⟨w.heap.size + 1, 1, none⟩ = some (.int .i64 vb) := by rw [cell_of_row _ _ _ _ _ _ ((hSw.block _ Hlt.out.2.2).trans HB.out)]; rfl
    (try go_simp)
    (try with_reducible rfl)
  (try simp only [Act.put, List.setIfInBounds_toArray, List.set_cons_zero, List.set_cons_succ])
  refine wpAnyH_take (i := 10) (oi := ({ dst := some 19, op := Op.load 3 (Operand.tmp 18), type := 3, pos := "values.go:56", after := #[{ on := 9, ground := Ground.data }], guard := none } : Oper)) (v := ?_) rfl (by kernel_rfl) (by kernel_rfl) (by kernel_rfl) (fun _ _ _ h => h) (Or.inl ⟨by rfl, ?_⟩) (by assumption) ?_
  rotate_left 1
  · intro v hSw
    replace hSw : Below W2.heap.size W2 v := hSw
    have q1 : v.cell? ⟨w.heap.size, 1, none⟩ = some (.int .i64 va) := by rw [cell_of_row _ _ _ _ _ _ ((hSw.block _ Hlt.out.2.1).trans HA.out)]; rfl
    have q3 : v.cell? ⟨w.heap.size + 1, 1, none⟩ = some (.int .i64 vb) := by rw [cell_of_row _ _ _ _ _ _ ((hSw.block _ Hlt.out.2.2).trans HB.out)]; rfl
    (try go_simp)
    (try with_reducible rfl)
  (try simp only [Act.put, List.setIfInBounds_toArray, List.set_cons_zero, List.set_cons_succ])
  refine wpAnyH_ready (rs := [5]) (by kernel_rfl) (by simp) ?_
  refine AllReadyH.cons (o := ({ dst := some 14, op := Op.call { callee := Callee.value (Operand.func 60), args := #[Operand.tmp 9, Operand.tmp 11, Operand.tmp 13], argTypes := #[98, 3, 3] }, type := 4, pos := "values.go:56", after := #[{ on := 0, ground := Ground.data }, { on := 2, ground := Ground.data }, { on := 4, ground := Ground.data }], guard := none } : Oper)) rfl (fun K hK => ?_) (AllReadyH.nil)
  go_simp
  refine (HS.out va vb X0 ((hHeld.block _ Hlt.out.1).trans HR.out)).mono ?_
  rintro e X1 ⟨rfl, hc⟩
  have hH1 : Below W2.heap.size W2 X1 := bt hHeld hHeld.size hc
  refine hK.out _ _ hH1 (fun _ => ?_)
  clear hK K
  (try simp only [Act.put, List.setIfInBounds_toArray, List.set_cons_zero, List.set_cons_succ])
  refine wpAnyH_ready (rs := [11]) (by kernel_rfl) (by simp) ?_
  refine AllReadyH.cons (o := ({ dst := some 20, op := Op.call { callee := Callee.value (Operand.func 60), args := #[Operand.tmp 15, Operand.tmp 17, Operand.tmp 19], argTypes := #[98, 3, 3] }, type := 4, pos := "values.go:56", after := #[{ on := 6, ground := Ground.data }, { on := 8, ground := Ground.data }, { on := 10, ground := Ground.data }, { on := 5, ground := Ground.chain }], guard := none } : Oper)) rfl (fun K hK => ?_) (AllReadyH.nil)
  go_simp
  refine (HS.out vb va X1 ((hH1.block _ Hlt.out.1).trans HR.out)).mono ?_
  rintro e X2 ⟨rfl, hc2⟩
  have hH2 : Below W2.heap.size W2 X2 := bt hH1 hH1.size hc2
  refine hK.out _ _ hH2 (fun _ => ?_)
  clear hK K
  (try simp only [Act.put, List.setIfInBounds_toArray, List.set_cons_zero, List.set_cons_succ])
  refine wpAnyH_take (i := 12) (oi := ({ dst := some 7, op := Op.assign (Operand.tmp 14), type := 4, pos := "values.go:56", after := #[{ on := 5, ground := Ground.data }, { on := 11, ground := Ground.chain }, { on := 0, ground := Ground.phase }, { on := 1, ground := Ground.phase }, { on := 2, ground := Ground.phase }, { on := 3, ground := Ground.phase }, { on := 4, ground := Ground.phase }, { on := 5, ground := Ground.phase }, { on := 6, ground := Ground.textOnly Departure.lateStores }, { on := 7, ground := Ground.textOnly Departure.lateStores }, { on := 8, ground := Ground.textOnly Departure.lateStores }, { on := 9, ground := Ground.textOnly Departure.lateStores }, { on := 10, ground := Ground.textOnly Departure.lateStores }, { on := 11, ground := Ground.textOnly Departure.lateStoresUnsure }], guard := none } : Oper)) (v := ?_) rfl (by kernel_rfl) (by kernel_rfl) (by kernel_rfl) (fun _ _ _ h => h) (Or.inl ⟨by rfl, ?_⟩) (by assumption) ?_
  rotate_left 1
  · intro v hSw
    (try go_simp)
    (try with_reducible rfl)
  (try simp only [Act.put, List.setIfInBounds_toArray, List.set_cons_zero, List.set_cons_succ])
  refine wpAnyH_take (i := 13) (oi := ({ dst := some 8, op := Op.assign (Operand.tmp 20), type := 4, pos := "values.go:56", after := #[{ on := 11, ground := Ground.data }, { on := 12, ground := Ground.chain }, { on := 0, ground := Ground.phase }, { on := 1, ground := Ground.phase }, { on := 2, ground := Ground.phase }, { on := 3, ground := Ground.phase }, { on := 4, ground := Ground.phase }, { on := 5, ground := Ground.phase }, { on := 6, ground := Ground.phase }, { on := 7, ground := Ground.phase }, { on := 8, ground := Ground.phase }, { on := 9, ground := Ground.phase }, { on := 10, ground := Ground.phase }, { on := 11, ground := Ground.phase }, { on := 12, ground := Ground.phase }], guard := none } : Oper)) (v := ?_) rfl (by kernel_rfl) (by kernel_rfl) (by kernel_rfl) (fun _ _ _ h => h) (Or.inl ⟨by rfl, ?_⟩) (by assumption) ?_
  rotate_left 1
  · intro v hSw
    (try go_simp)
    (try with_reducible rfl)
  (try simp only [Act.put, List.setIfInBounds_toArray, List.set_cons_zero, List.set_cons_succ])
  refine wpAnyH_done (by kernel_rfl) ?_ _
  refine NoPanic.normal ?_
  have HW := Lib.hid (bt HB2.out HB2.out.size hH2)
  have c0 : X2.cell? ⟨w.heap.size, 0, none⟩ = some (.int .i64 h) := by rw [cell_of_row _ _ _ _ _ _ ((hH2.block _ Hlt.out.2.1).trans HA.out)]; rfl
  have c1 : X2.cell? ⟨w.heap.size + 1, 0, none⟩ = some (.int .i64 k) := by rw [cell_of_row _ _ _ _ _ _ ((hH2.block _ Hlt.out.2.2).trans HB.out)]; rfl
  clear hH1 hH2 hc hc2 hHeld HS
  have qB : ∀ (w : World) (p q : Bool), (binOp .eql 4 (.bool p) (.bool q)).run Try.prog w = .ok (.bool (p == q)) w := fun w p q => by cases p <;> cases q <;> rfl
  generalize ord va vb = p at HV ⊢
  generalize ord vb va = q at HV ⊢
  cases p <;> cases q
  · go_wp2_with fail
    refine (HC.out _).mono ?_
    rintro e w' ⟨rfl, rfl⟩
    go_wp2_with fail
    go_ret
    exact ⟨by rw [HV.out]; rfl, HW.out⟩
  · go_wp2_with fail
    go_ret
    exact ⟨by rw [HV.out]; rfl, HW.out⟩
  · go_wp2_with fail
    go_ret
    exact ⟨by rw [HV.out]; rfl, HW.out⟩
  · go_wp2_with fail
    refine (HC.out _).mono ?_
    rintro e w' ⟨rfl, rfl⟩
    go_wp2_with fail
    go_ret
    exact ⟨by rw [HV.out]; rfl, HW.out⟩
end Go.Proofs.Ytdkfaepmgennjaa
