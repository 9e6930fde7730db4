/- The contract of the reference's Hex. -/
import Derived.Test.YtgpgnfdbjljljaaDoorShaEq
import Derived.StillTailTactics
namespace Go.Proofs.YtgpgnfdbjljljaaDoor
open Go.RowKit
namespace S
theorem run_digit_str (w : World) (n : Nat) (z y : Int) (hz : z = (n : Int)) (hy : y = (n : Int) + 1) (h : n < 16) : (Instr.sliceAt 9 (.string ⟨#[48, 49, 50, 51, 52, 53, 54, 55, 56, 57, 97, 98, 99, 100, 101, 102]⟩) (some (.int .u8 z)) (some (.int .u8 y)) none).run Tryd.prog w = .ok (.string ⟨#[hexd n]⟩) w := by
  subst hz hy
  obtain rfl | rfl | rfl | rfl | rfl | rfl | rfl | rfl | rfl | rfl | rfl | rfl | rfl | rfl | rfl | rfl : n = 0 ∨ n = 1 ∨ n = 2 ∨ n = 3 ∨ n = 4 ∨ n = 5 ∨ n = 6 ∨ n = 7 ∨ n = 8 ∨ n = 9 ∨ n = 10 ∨ n = 11 ∨ n = 12 ∨ n = 13 ∨ n = 14 ∨ n = 15 := by omega
  all_goals
    simp [Instr.sliceAt, Instr.slice, run_underlying Tryd.underlying9, Instr.sliceBounds, Instr.sliceBound, asIntOf]
    first | rfl | skip
theorem wpStill_slice {P : Program} {ops : Array Oper} {rest : List Oper} {o : Oper} {a : Act} {w : World} {Q : Act → Prop} (hgd : o.guard = none) (t : TypeId) (x lo hi : Operand) (ho : o.op = .slice t x (some lo) (some hi) none)
    (vx vlo vhi v : Value) (hx : a.eval x = vx) (hlo : a.eval lo = vlo) (hhi : a.eval hi = vhi) (hrun : (Instr.sliceAt t vx (some vlo) (some vhi) none).run P w = .ok v w)
    (h : wpStill P ops w Q rest (a.put o.dst v)) : wpStill P ops w Q (o :: rest) a := by
  have hw : Region.wanted o (yielded ops a.tmps) = true := by simp [Region.wanted, hgd]
  have hr : (execOp a.eval o).run P w = .ok (.value v) w := by
    unfold execOp
    simp only [ho, Option.map_some, Option.map_none, hx, hlo, hhi, Sem.run_bind, hrun, Result.andThen_ok, Sem.run_pure]
  refine wpStill_step (fun K hK => ?_)
  rw [if_pos hw]
  unfold Oper.still
  rw [hr, Oper.stillUpon_value]
  exact hK _ h
theorem run_str_add (w : World) (t : TypeId) (a b : List UInt8) (h : a.length + b.length ≤ 10000) : (binOp .add t (.string ⟨a.toArray⟩) (.string ⟨b.toArray⟩)).run Tryd.prog w = .ok (.string ⟨(a ++ b).toArray⟩) w := by
  rw [binOp_string_add]
  have h1 := run_string_add_sum (P := Tryd.prog) (w := w) ⟨a.toArray⟩ ⟨b.toArray⟩ (by simp [ByteArray.size]; omega)
  rw [h1]
  congr 2
theorem wpStill_add {P : Program} {ops : Array Oper} {rest : List Oper} {o : Oper} {a : Act} {w : World} {Q : Act → Prop} (hgd : o.guard = none) (t u : TypeId) (x y : Operand) (ho : o.op = .binOp .add t x y u)
    (vx vy v : Value) (hx : a.eval x = vx) (hy : a.eval y = vy) (hrun : (binOp .add t vx vy).run P w = .ok v w)
    (h : wpStill P ops w Q rest (a.put o.dst v)) : wpStill P ops w Q (o :: rest) a := by
  have hw : Region.wanted o (yielded ops a.tmps) = true := by simp [Region.wanted, hgd]
  have hr : (execOp a.eval o).run P w = .ok (.value v) w := by
    have hg : (eqGuard .add t x y vx vy).run P w = .ok () w := rfl
    unfold execOp
    simp only [ho, hx, hy, Sem.run_bind, hg, hrun, Result.andThen_ok, Sem.run_pure]
  refine wpStill_step (fun K hK => ?_)
  rw [if_pos hw]
  unfold Oper.still
  rw [hr, Oper.stillUpon_value]
  exact hK _ h
end S
set_option maxRecDepth 100000 in
set_option maxHeartbeats 1000000 in
theorem RHex_any (l : List UInt8) (hl : l.length = 32) (w : World) :
    Calls Tryd.prog 18 #[.agg (l.map S.byteV).toArray] w fun e w' => e = .returned (.string ⟨(S.hexOf l).toArray⟩) ∧ Below w.heap.size w w' := by
  have HL := Lib.hid hl
  clear hl
  go_enter Tryd.func18, Tryd.ntmps18
  go_wp2_with fail
  have hrow : S.Row (w.alloc (.cells (l.map S.byteV).toArray 22)) w.heap.size 22 (l.map S.byteV) := S.Row.made _ _ _ rfl rfl
  have hb0 : Below w.heap.size w (w.alloc (.cells (l.map S.byteV).toArray 22)) := (Below.refl _ _).alloc (Nat.le_refl _) _
  go_loopw [3, 4] (fun v i wr => ∃ k : Nat, k ≤ 32 ∧ i = .int .i64 k ∧ v = .string ⟨(S.hexOf (l.take k)).toArray⟩ ∧ S.Row wr w.heap.size 22 (l.map S.byteV) ∧ Below w.heap.size w wr) (fun _ i _ => 32 - (intOf i).toNat)
  case atStart => exact ⟨0, Nat.zero_le _, rfl, rfl, hrow, hb0⟩
  case round =>
    obtain ⟨k, hk, rfl, rfl, hrw, hbel⟩ := hrel
    clear hb0 hrow
    by_cases hlt : k < 32
    · have hkl : k < l.length := by rw [HL.out]; exact hlt
      have hcell := hrw.cell (j := k) (v := .int .u8 (S.at_ l k : Nat)) (S.byte_get l hkl)
      have HX := Lib.hid (S.hexOf_snoc l hkl)
      have hc := S.at_lt l k
      have hlen : (S.hexOf (l.take k)).length ≤ 1000 := by rw [S.hexOf_len, List.length_take]; omega
      generalize S.hexOf (l.take k) = xs at HX hlen
      generalize S.at_ l k = c at hcell HX hc
      clear hkl
      obtain ⟨q, hq⟩ : ∃ q, q = c / 16 := ⟨_, rfl⟩
      obtain ⟨r, hr⟩ : ∃ r, r = c % 16 := ⟨_, rfl⟩
      have d0 : (c : Int) / 16 = (q : Int) := by omega
      have d1 : (c : Int).tmod 16 = (r : Int) := by rw [Int.tmod_eq_emod_of_nonneg (by omega)]; omega
      have hq16 : q < 16 := by omega
      have hr16 : r < 16 := by omega
      rw [← hq, ← hr] at HX
      clear hq hr
      have i1 : ∀ W, (Instr.sliceAt 9 (.string { data := #[48, 49, 50, 51, 52, 53, 54, 55, 56, 57, 97, 98, 99, 100, 101, 102] }) (some (.int .u8 (q : Int))) (some (.int .u8 ((q : Int) + 1))) none).run Tryd.prog W = .ok (.string ⟨#[S.hexd q]⟩) W := fun W => S.run_digit_str W q _ _ rfl rfl hq16
      have i2 : ∀ W, (Instr.sliceAt 9 (.string { data := #[48, 49, 50, 51, 52, 53, 54, 55, 56, 57, 97, 98, 99, 100, 101, 102] }) (some (.int .u8 (r : Int))) (some (.int .u8 ((r : Int) + 1))) none).run Tryd.prog W = .ok (.string ⟨#[S.hexd r]⟩) W := fun W => S.run_digit_str W r _ _ rfl rfl hr16
      have w0 : IntKind.u8.wrap (q : Int) = (q : Int) := IntWalk.u8_in _ (by omega)
      have w1 : IntKind.u8.wrap ((q : Int) + 1) = (q : Int) + 1 := IntWalk.u8_in _ (by omega)
      have w2 : IntKind.u8.wrap (r : Int) = (r : Int) := IntWalk.u8_in _ (by omega)
      have w3 : IntKind.u8.wrap ((r : Int) + 1) = (r : Int) + 1 := IntWalk.u8_in _ (by omega)
      replace i1 := Lib.hid i1
      replace i2 := Lib.hid i2
      generalize S.hexd q = g1 at i1 HX
      generalize S.hexd r = g2 at i2 HX
      go_wp2_with fail
      refine wp_region_still_lit (by kernel_rfl) (by kernel_rfl) ?_
      repeat still_step
      refine S.wpStill_slice rfl _ _ (.tmp 13) (.tmp 18) rfl _ _ _ _ rfl rfl rfl (i1.out _) ?_
      (try simp only [Act.put, List.setIfInBounds_toArray, List.set_cons_zero, List.set_cons_succ])
      refine S.wpStill_add rfl _ _ (.tmp 9) (.tmp 19) rfl _ _ _ rfl rfl (S.run_str_add _ _ xs [g1] (by simp; omega)) ?_
      (try simp only [Act.put, List.setIfInBounds_toArray, List.set_cons_zero, List.set_cons_succ])
      repeat still_step
      refine S.wpStill_slice rfl _ _ (.tmp 24) (.tmp 29) rfl _ _ _ _ rfl rfl rfl (i2.out _) ?_
      (try simp only [Act.put, List.setIfInBounds_toArray, List.set_cons_zero, List.set_cons_succ])
      refine S.wpStill_add rfl _ _ (.tmp 20) (.tmp 30) rfl _ _ _ rfl rfl (S.run_str_add _ _ (xs ++ [g1]) [g2] (by simp; omega)) ?_
      (try simp only [Act.put, List.setIfInBounds_toArray, List.set_cons_zero, List.set_cons_succ])
      repeat still_step
      refine wpStill_nil ?_
      change Exit.inBlock _ _ _ _ wr.drew
      rw [← HX.out]
      go_wp2_with fail
      go_roundw
      case rel => exact ⟨k + 1, by omega, by go_num, rfl, hrw, hbel.drew⟩
      case measure => simp [intOf]; omega
    · obtain rfl : k = 32 := by omega
      have hE : l.take 32 = l := List.take_of_length_le (by rw [HL.out]; exact Nat.le_refl _)
      rw [hE]
      have HB := Lib.hid hbel
      clear hbel hE
      go_wp2_with fail
      go_ret
      exact ⟨rfl, HB.out⟩
end Go.Proofs.YtgpgnfdbjljljaaDoor
