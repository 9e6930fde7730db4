/- The contract of package sha's Parse. -/
import Derived.Test.YtgpgnfdbjljljaaDoorShaHxMath
import Derived.StillTailTactics
namespace Go.Proofs.YtgpgnfdbjljljaaDoor
open Go.RowKit
namespace S
theorem run_index_str (w : World) (s : List UInt8) (k : Nat) (z : Int) (hz : z = (k : Int)) (h : k < s.length) : (Instr.index 9 (.string ⟨s.toArray⟩) (.int .i64 z)).run Tryd.prog w = .ok (.int .u8 ((s.getD k 0).toNat : Int)) w := by
  subst hz
  rw [run_index_string w 9 _ .i64 (k : Int) Tryd.underlying9]
  have hi : 0 ≤ (k : Int) ∧ (k : Int) < ((⟨s.toArray⟩ : ByteArray).size : Int) := ⟨by omega, by simp [ByteArray.size]; omega⟩
  rw [dif_pos hi, List.getD_eq_getElem?_getD, List.getElem?_eq_getElem h]
  rfl
theorem wpStill_index {P : Program} {ops : Array Oper} {rest : List Oper} {o : Oper} {a : Act} {w : World} {Q : Act → Prop} (hgd : o.guard = none) (t : TypeId) (x i : Operand) (ho : o.op = .index t x i)
    (vx vi v : Value) (hx : a.eval x = vx) (hi : a.eval i = vi) (hrun : (Instr.index t vx vi).run P w = .ok v w)
    (h : wpStill P ops w Q rest (a.put o.dst v)) : wpStill P ops w Q (o :: rest) a := by
  have hw : Region.wanted o (yielded ops a.tmps) = true := by simp [Region.wanted, hgd]
  have hr : (execOp a.eval o).run P w = .ok (.value v) w := by
    unfold execOp
    simp only [ho, hx, hi, Sem.run_bind, hrun, Result.andThen_ok, Sem.run_pure]
  refine wpStill_step (fun K hK => ?_)
  rw [if_pos hw]
  unfold Oper.still
  rw [hr, Oper.stillUpon_value]
  exact hK _ h
end S
theorem IndexDig_any (x : UInt8) (w : World) :
    Calls Tryd.prog 47 #[.string { data := #[48, 49, 50, 51, 52, 53, 54, 55, 56, 57, 97, 98, 99, 100, 101, 102] }, .int .u8 (x.toNat : Int)] w fun e w' => e = .returned (.int .i64 (S.dig x)) ∧ w' = w := by
  refine (IndexByte_any _ _ w).mono ?_
  rintro e w' ⟨rfl, rfl⟩
  refine ⟨?_, rfl⟩
  have hx : ((x.toNat : Int)).toNat.toUInt8 = x := by rw [Int.toNat_natCast]; exact UInt8.ofNat_toNat
  rw [hx]
  rfl
set_option maxRecDepth 100000 in
set_option maxHeartbeats 2000000 in
theorem Parse_any (s : List UInt8) (w : World) :
    Calls Tryd.prog 15 #[.string ⟨s.toArray⟩] w fun e w' => e = .returned (.tuple #[.agg ((S.parsed s).map S.byteV).toArray, .int .i64 (S.perr s)]) ∧ Below w.heap.size w w' := by
  obtain ⟨R, HR⟩ : ∃ R, Hid (R = (S.parsed s).map S.byteV) := ⟨_, Lib.hid rfl⟩
  rw [← HR.out]
  have HRl := Lib.hid (show R.length = 32 by rw [HR.out, List.length_map, S.parsed_len])
  have HRi := Lib.hid (show (Tryd.prog.info? 22).map (·.size) = some R.toArray.size by rw [S.info_d32]; simp [HRl.out])
  have HR1 := Lib.hid (show R.toArray.all (·.oneCell') = true by rw [HR.out]; exact S.bvals_one _)
  by_cases h64 : s.length = 64
  · have h64i : (s.length : Int) = 64 := by omega
    go_enter Tryd.func15, Tryd.ntmps15
    go_wp2_with fail
    generalize hwx : ((w.alloc _).alloc _) = wx
    have hres : S.Row wx w.heap.size 22 (List.replicate 32 (S.byteV 0)) := by rw [← hwx]; exact ((S.Row.made _ _ _ rfl rfl).alloc _)
    have hout : S.Row wx (w.heap.size + 1) 22 (List.replicate 32 (S.byteV 0)) := by rw [← hwx]; exact S.Row.made _ _ _ (by simp) rfl
    have hb0 : Below w.heap.size w wx := by rw [← hwx]; exact (((Below.refl _ w).alloc (Nat.le_refl _) _).alloc (by simp) _)
    clear hwx
    go_loopw [12] (fun i wr => ∃ k : Nat, k ≤ 32 ∧ i = .int .i64 k ∧ (∀ j, j < k → S.two s j = true) ∧ S.Row wr w.heap.size 22 (List.replicate 32 (S.byteV 0)) ∧ S.Row wr (w.heap.size + 1) 22 ((S.read s k).map S.byteV) ∧ Below w.heap.size w wr) (fun i _ => 32 - (intOf i).toNat)
    case atStart => exact ⟨0, Nat.zero_le _, rfl, fun j hj => absurd hj (by omega), hres, by rw [S.read_zero]; simpa using hout, hb0⟩
    case round =>
      clear hres hout hb0
      obtain ⟨k, hk, rfl, hall, hres, hout, hbel⟩ := hrel
      have HALL := Lib.hid hall
      clear hall
      by_cases hlt : k < 32
      · obtain ⟨p, hp⟩ : ∃ p, p = 2 * k := ⟨_, rfl⟩
        have hx1 : ∀ W, (Instr.index 9 (.string ⟨s.toArray⟩) (.int .i64 (p : Int))).run Tryd.prog W = .ok (.int .u8 ((s.getD p 0).toNat : Int)) W := fun W => S.run_index_str W s p _ rfl (by omega)
        have hx2 : ∀ W, (Instr.index 9 (.string ⟨s.toArray⟩) (.int .i64 ((p : Int) + 1))).run Tryd.prog W = .ok (.int .u8 ((s.getD (p + 1) 0).toNat : Int)) W := fun W => S.run_index_str W s (p + 1) _ (by omega) (by omega)
        have m0 : 2 * (k : Int) = (p : Int) := by omega
        have m1 : IntKind.i64.wrap (p : Int) = (p : Int) := IntWalk.i64_in _ (by omega)
        have m2 : IntKind.i64.wrap ((p : Int) + 1) = (p : Int) + 1 := IntWalk.i64_in _ (by omega)
        have HTWO := Lib.hid (show S.two s k = (decide (0 ≤ S.dig (s.getD p 0)) && decide (0 ≤ S.dig (s.getD (p + 1) 0))) by rw [hp]; rfl)
        have HPV := Lib.hid (show S.pv s k = UInt8.ofNat (16 * (S.dig (s.getD p 0)).toNat + (S.dig (s.getD (p + 1) 0)).toNat) by rw [hp]; rfl)
        replace hx1 := Lib.hid hx1
        replace hx2 := Lib.hid hx2
        generalize s.getD p 0 = cx at hx1 HTWO HPV
        generalize s.getD (p + 1) 0 = cy at hx2 HTWO HPV
        have g1 := S.dig_ge cx
        have g2 := S.dig_ge cy
        have D1 := Lib.hid (fun w => IndexDig_any cx w)
        have D2 := Lib.hid (fun w => IndexDig_any cy w)
        have X1 := Lib.hid (fun o h => S.hexd_dig (c := cx) (o := o) h)
        have X2 := Lib.hid (fun o h => S.hexd_dig (c := cy) (o := o) h)
        generalize S.dig cx = a at g1 D1 X1 HTWO HPV
        generalize S.dig cy = b at g2 D2 X2 HTWO HPV
        generalize (cx.toNat : Int) = vx at hx1 D1
        generalize (cy.toNat : Int) = vy at hx2 D2
        clear hp
        go_wp2_with fail
        refine wp_region_still_lit (by kernel_rfl) (by kernel_rfl) ?_
        repeat still_step
        refine S.wpStill_index rfl _ (.tmp 15) (.tmp 17) rfl _ _ _ rfl rfl (hx1.out _) ?_
        (try simp only [Act.put, List.setIfInBounds_toArray, List.set_cons_zero, List.set_cons_succ])
        repeat still_step
        still_call (D1.out _)
        repeat still_step
        refine S.wpStill_index rfl _ (.tmp 20) (.tmp 23) rfl _ _ _ rfl rfl (hx2.out _) ?_
        (try simp only [Act.put, List.setIfInBounds_toArray, List.set_cons_zero, List.set_cons_succ])
        repeat still_step
        still_call (D2.out _)
        repeat still_step
        refine wpStill_nil ?_
        change Exit.then _ _ _ _ wr.drew
        rcases (show a < 0 ∨ (0 ≤ a ∧ b < 0) ∨ (0 ≤ a ∧ 0 ≤ b) by omega) with ha | ⟨ha, hb⟩ | ⟨ha, hb⟩
        · have hbad : decide (0 ≤ a) = false := decide_eq_false (by omega)
          have hg : S.good s = false := by
            cases h : S.good s with
            | false => rfl
            | true => exact absurd (((S.good_iff s).1 h).2 k hlt) (by rw [HTWO.out, hbad]; simp)
          have HZ := Lib.hid (show (List.replicate 32 (0 : UInt8)).map S.byteV = R by rw [HR.out, S.parsed, hg]; rfl)
          have HE := Lib.hid (show S.perr s = 6 by rw [S.perr, hg]; rfl)
          have HB := Lib.hid hbel.drew
          have hres' : S.Row wr.drew w.heap.size 22 (List.replicate 32 (S.byteV 0)) := hres
          clear hg hbad hout hres hbel HTWO HPV X1 X2 D1 D2 hx1 hx2
          go_wp2_with (refine S.wpList_store_but rfl 22 (.tmp 2) (.tmp 32) rfl w.heap.size ((List.replicate 32 (0 : UInt8)).map S.byteV) rfl rfl _ _ hres' S.info_d32 rfl (S.bvals_one _) ?_; intro w9 hr9 hbut9; rw [HZ.out] at hr9)
          exact bodyPost_ret (v := .tuple #[.agg R.toArray, .int .i64 6]) (S.results_cell_two Tryd.results15 _ _ w.heap.size _ _ _ _ _ rfl rfl hr9 Tryd.underlying22 rfl HRi.out) rfl ⟨by rw [HE.out], HB.out.trans (hbut9.below (Nat.le_refl _) HB.out.size)⟩
        · have hbad : decide (0 ≤ b) = false := decide_eq_false (by omega)
          have hg : S.good s = false := by
            cases h : S.good s with
            | false => rfl
            | true => exact absurd (((S.good_iff s).1 h).2 k hlt) (by rw [HTWO.out, hbad]; simp)
          have HZ := Lib.hid (show (List.replicate 32 (0 : UInt8)).map S.byteV = R by rw [HR.out, S.parsed, hg]; rfl)
          have HE := Lib.hid (show S.perr s = 6 by rw [S.perr, hg]; rfl)
          have HB := Lib.hid hbel.drew
          have hres' : S.Row wr.drew w.heap.size 22 (List.replicate 32 (S.byteV 0)) := hres
          clear hg hbad hout hres hbel HTWO HPV X1 X2 D1 D2 hx1 hx2
          go_wp2_with (refine S.wpList_store_but rfl 22 (.tmp 2) (.tmp 32) rfl w.heap.size ((List.replicate 32 (0 : UInt8)).map S.byteV) rfl rfl _ _ hres' S.info_d32 rfl (S.bvals_one _) ?_; intro w9 hr9 hbut9; rw [HZ.out] at hr9)
          exact bodyPost_ret (v := .tuple #[.agg R.toArray, .int .i64 6]) (S.results_cell_two Tryd.results15 _ _ w.heap.size _ _ _ _ _ rfl rfl hr9 Tryd.underlying22 rfl HRi.out) rfl ⟨by rw [HE.out], HB.out.trans (hbut9.below (Nat.le_refl _) HB.out.size)⟩
        · obtain ⟨x, rfl⟩ := Int.eq_ofNat_of_zero_le ha
          obtain ⟨y, rfl⟩ := Int.eq_ofNat_of_zero_le hb
          have hx16 := (X1.out x rfl).1
          have hy16 := (X2.out y rfl).1
          have hor := S.or_dig ⟨x, hx16⟩ ⟨y, hy16⟩
          simp only at hor
          obtain ⟨v, hv⟩ : ∃ v, v = 16 * x + y := ⟨_, rfl⟩
          rw [← hv] at hor
          have hv256 : (v : Int) % 256 = (v : Int) := by omega
          have HS := S.read_set s hlt
          have hpv : (S.pv s k).toNat = v := by
            rw [HPV.out, UInt8.toNat_ofNat', hv]
            simp only [Int.toNat_natCast]
            omega
          rw [hpv] at HS
          replace HS := Lib.hid HS
          have HALL2 := Lib.hid (show ∀ j, j < k + 1 → S.two s j = true from fun j hj => by
            by_cases e : j = k
            · subst e
              rw [HTWO.out]
              simp
            · exact HALL.out j (by omega))
          have hc : wr.drew.cell? ⟨w.heap.size + 1, k, none⟩ = some (.int .u8 0) := hout.cell (S.read_at s hlt)
          have hf : wr.drew.frozen? ⟨w.heap.size + 1, k, none⟩ = false := hout.frozen k
          have hout' : S.Row wr.drew (w.heap.size + 1) 22 ((S.read s k).map S.byteV) := hout
          have hres' : S.Row wr.drew w.heap.size 22 (List.replicate 32 (S.byteV 0)) := hres
          have hbel' : Below w.heap.size w wr.drew := hbel.drew
          generalize wr.drew = wq at hc hf hout' hres' hbel' ⊢
          clear hv hpv hout hres hbel HTWO HPV X1 X2 D1 D2 hx1 hx2 m0 m1 m2
          go_wp2_with fail
          go_roundw
          case rel => exact ⟨k + 1, by omega, by go_num, HALL2.out, hres'.setOther _ (by simp) _, HS.out ▸ hout'.set k _, hbel'.setCell (by simp) _⟩
          case measure => simp [intOf]; omega
      · obtain rfl : k = 32 := by omega
        have hg : S.good s = true := (S.good_iff s).2 ⟨h64, HALL.out⟩
        have HZ := Lib.hid (show (S.read s 32).map S.byteV = R by rw [HR.out, S.parsed, hg]; rfl)
        have HE := Lib.hid (show S.perr s = 0 by rw [S.perr, hg]; rfl)
        have hro : S.Row wr (w.heap.size + 1) 22 R.toArray.toList := by rw [HZ.out] at hout; exact hout
        have HB := Lib.hid hbel
        clear hg hbel hout
        go_wp2_with (first
          | (refine wpList_load_row rfl 22 (.tmp 4) rfl (w.heap.size + 1) rfl _ R.toArray (0, 0) _ hro Tryd.underlying22 rfl HRi.out ?_)
          | (refine S.wpList_store_but rfl 22 (.tmp 2) (.tmp 41) rfl w.heap.size R rfl rfl _ _ hres HRi.out (by rw [HRl.out]; rfl) HR1.out ?_; intro w9 hr9 hbut9))
        exact bodyPost_ret (v := .tuple #[.agg R.toArray, .int .i64 0]) (S.results_cell_two Tryd.results15 _ _ w.heap.size _ _ _ _ _ rfl rfl hr9 Tryd.underlying22 rfl HRi.out) rfl ⟨by rw [HE.out], HB.out.trans (hbut9.below (Nat.le_refl _) HB.out.size)⟩
  · have hni : ¬ (s.length : Int) = 64 := by omega
    have hg : S.good s = false := by
      cases h : S.good s with
      | false => rfl
      | true => exact absurd ((S.good_iff s).1 h).1 h64
    have HZ := Lib.hid (show R = (List.replicate 32 (0 : UInt8)).map S.byteV by rw [HR.out, S.parsed, hg]; rfl)
    have HE := Lib.hid (show S.perr s = 6 by rw [S.perr, hg]; rfl)
    rw [HE.out]
    clear hg h64
    go_enter Tryd.func15, Tryd.ntmps15
    have hres : S.Row ((w.alloc (.cells (Array.replicate 32 (S.byteV 0)) 22)).alloc (.cells (Array.replicate 32 (S.byteV 0)) 22)) w.heap.size 22 (List.replicate 32 (S.byteV 0)) := (S.Row.made _ _ _ rfl rfl).alloc _
    have hz : S.Row ((w.alloc (.cells (Array.replicate 32 (S.byteV 0)) 22)).alloc (.cells (Array.replicate 32 (S.byteV 0)) 22)) (w.heap.size + 1) 22 R := by rw [HZ.out]; exact S.Row.made _ _ _ (by simp) rfl
    have HB := Lib.hid (show Below w.heap.size w ((w.alloc (.cells (Array.replicate 32 (S.byteV 0)) 22)).alloc (.cells (Array.replicate 32 (S.byteV 0)) 22)) from ((Below.refl _ w).alloc (Nat.le_refl _) _).alloc (by simp) _)
    go_wp2_with (first
      | (refine wpList_load_row rfl 22 (.tmp 4) rfl (w.heap.size + 1) rfl _ R.toArray (0, 0) _ hz Tryd.underlying22 rfl HRi.out ?_)
      | (refine S.wpList_store_but rfl 22 (.tmp 2) (.tmp 11) rfl w.heap.size R rfl rfl _ _ hres HRi.out (by rw [HRl.out]; rfl) HR1.out ?_; intro w9 hr9 hbut9))
    exact bodyPost_ret (v := .tuple #[.agg R.toArray, .int .i64 6]) (S.results_cell_two Tryd.results15 _ _ w.heap.size _ _ _ _ _ rfl rfl hr9 Tryd.underlying22 rfl HRi.out) rfl ⟨rfl, HB.out.trans (hbut9.below (Nat.le_refl _) HB.out.size)⟩
end Go.Proofs.YtgpgnfdbjljljaaDoor
