/- The walk of the law ShaRoots. -/
import Derived.Test.YtgpgnfdbjljljaaDoorShaLRoot
import Derived.Test.YtgpgnfdbjljljaaDoorShaEq
namespace Go.Proofs.YtgpgnfdbjljljaaDoor
open Go.RowKit
namespace S
def whole3 (p : Nat) : Nat := if p < 8 then 1 else if p < 27 then 2 else if p < 64 then 3 else if p < 125 then 4 else if p < 216 then 5 else 6
def whole2 (p : Nat) : Nat := if p < 4 then 1 else if p < 9 then 2 else if p < 16 then 3 else 4
theorem w3_le (p : Nat) : whole3 p ≤ 6 := by unfold whole3; repeat' split
                                             all_goals omega
theorem w2_le (p : Nat) : whole2 p ≤ 4 := by unfold whole2; repeat' split
                                             all_goals omega
theorem w3_low {p k : Nat} (hp : 2 ≤ p) (hk : k < whole3 p) : (k + 1) * (k + 1) * (k + 1) ≤ p := by
  have := w3_le p
  unfold whole3 at hk
  obtain rfl | rfl | rfl | rfl | rfl | rfl : k = 0 ∨ k = 1 ∨ k = 2 ∨ k = 3 ∨ k = 4 ∨ k = 5 := by (repeat' split at hk) <;> omega
  all_goals ((repeat' split at hk) <;> omega)
theorem w3_high {p : Nat} (hp : p < 312) : p < (whole3 p + 1) * (whole3 p + 1) * (whole3 p + 1) := by
  unfold whole3
  repeat' split
  all_goals omega
theorem w2_low {p k : Nat} (hp : 2 ≤ p) (hk : k < whole2 p) : (k + 1) * (k + 1) ≤ p := by
  unfold whole2 at hk
  obtain rfl | rfl | rfl | rfl : k = 0 ∨ k = 1 ∨ k = 2 ∨ k = 3 := by (repeat' split at hk) <;> omega
  all_goals ((repeat' split at hk) <;> omega)
theorem w2_high {p : Nat} (hp : p < 25) : p < (whole2 p + 1) * (whole2 p + 1) := by
  unfold whole2
  repeat' split
  all_goals omega
def F3 (p k : Nat) : Bool := decide (cHi (whole3 p * 4294967296 + k) < p * 4294967296) && decide (p * 4294967296 ≤ cHi (whole3 p * 4294967296 + k + 1)) && (decide (p * 4294967296 < cHi (whole3 p * 4294967296 + k + 1)) || decide (0 < lLo (lLo (whole3 p * 4294967296 + k + 1) (whole3 p * 4294967296 + k + 1)) (whole3 p * 4294967296 + k + 1))) && decide (k < 4294967296)
def F2 (p k : Nat) : Bool := decide (tHi (whole2 p * 4294967296 + k) (whole2 p * 4294967296 + k) < p) && decide (tHi (whole2 p * 4294967296 + k + 1) (whole2 p * 4294967296 + k + 1) = p) && decide (0 < lLo (whole2 p * 4294967296 + k + 1) (whole2 p * 4294967296 + k + 1)) && decide (k < 4294967296) && decide (p < 25)
/-- The primes, with what is known of the roots. -/
structure IsRt (Q : List Nat) : Prop where
  pr : IsPr Q
  r3 : (List.range 64).all (fun i => F3 (Q.getD i 0) (K.getD i 0)) = true
  r2 : (List.range 8).all (fun i => F2 (Q.getD i 0) (start.list.getD i 0)) = true
theorem isRt : IsRt (pr 312) := ⟨isPr, by rw [pr_all]; decide +kernel, by rw [pr_all]; decide +kernel⟩
theorem IsRt.three {Q : List Nat} (h : IsRt Q) {i : Nat} (hi : i < 64) : F3 (Q.getD i 0) (K.getD i 0) = true := List.all_eq_true.1 h.r3 i (List.mem_range.2 hi)
theorem IsRt.two {Q : List Nat} (h : IsRt Q) {i : Nat} (hi : i < 8) : F2 (Q.getD i 0) (start.list.getD i 0) = true := List.all_eq_true.1 h.r2 i (List.mem_range.2 hi)
theorem IsRt.ge {Q : List Nat} (h : IsRt Q) {i : Nat} (hi : i < 64) : 2 ≤ Q.getD i 0 ∧ Q.getD i 0 < 312 := by
  have hk' : i < Q.length := by rw [h.pr.len]; exact hi
  have := h.pr.lt _ (List.getElem_mem hk')
  rw [List.getD_eq_getElem?_getD, List.getElem?_eq_getElem hk']
  exact this
/-- A walk stops here. -/
structure Stopped (p : Prop) : Prop where
  go : p
theorem stop_here {P : Program} {ops : Array Oper} {rest : List Oper} {o : Oper} {a : Act} {w : World} {Q : Exit → Act → World → Prop} (t : TypeId) (x : Operand) (_ho : o.op = .load t x) (h : Stopped (wpList P ops Q (o :: rest) a w)) : wpList P ops Q (o :: rest) a w := h.go
theorem step_val {P : Program} {ops : Array Oper} {rest : List Oper} {o : Oper} {a : Act} {w : World} {Q : Exit → Act → World → Prop} {v : Value} (hw : Region.wanted o (yielded ops a.tmps) = true) (hr : (execOp a.eval o).run P w = .ok (.value v) w)
    (h : wpList P ops Q rest (a.put o.dst v) w) : wpList P ops Q (o :: rest) a w := by
  unfold wpList
  rw [if_pos hw]
  refine .inl ?_
  unfold Oper.wp
  rw [hr, Oper.upon_value]
  exact h
theorem step_skip {P : Program} {ops : Array Oper} {rest : List Oper} {o : Oper} {a : Act} {w : World} {Q : Exit → Act → World → Prop} (hw : Region.wanted o (yielded ops a.tmps) = false)
    (h : wpList P ops Q rest (a.put o.dst undef) w) : wpList P ops Q (o :: rest) a w := by
  unfold wpList
  rw [if_neg (by rw [hw]; decide)]
  exact h
end S
theorem Primes_rt : ∃ Q, S.IsRt Q ∧ ∀ w : World, Calls Tryd.prog 26 #[.int .i64 64] w fun e w' => ∃ v, e = .returned v ∧ w'.ownsRow w.heap.size 48 1 v 64 ((Q.take 64).map S.longV) ∧ Below w.heap.size w w' := ⟨S.pr 312, S.isRt, Primes_any 64 (by decide)⟩
set_option linter.unusedSimpArgs false in
set_option maxRecDepth 100000 in
set_option maxHeartbeats 1500000 in
theorem ShaRoots_walk (z : Int) (w : World) (hK : S.SLaid w) (hz0 : 0 ≤ z) (hz1 : z ≤ 255) :
    Calls Tryd.prog 5 #[.int .u8 z] w fun e w' => e = .returned (.bool true) ∧ Below w.heap.size w w' := by
  have h2 := hK.lt.1
  have HK := Lib.hid hK
  obtain ⟨Q, HQ, HPC⟩ := Primes_rt
  replace HPC := Lib.hid HPC
  obtain ⟨k1, hk1⟩ : ∃ k1 : Nat, z % 64 = (k1 : Int) := ⟨(z % 64).toNat, by omega⟩
  obtain ⟨k2, hk2⟩ : ∃ k2 : Nat, z % 8 = (k2 : Int) := ⟨(z % 8).toNat, by omega⟩
  have hk1l : k1 < 64 := by omega
  have hk2l : k2 < 8 := by omega
  have F3 := HQ.three hk1l
  have F2 := HQ.two hk2l
  have G1 := HQ.ge hk1l
  have G2 := HQ.ge (i := k2) (by omega)
  obtain ⟨p, HP⟩ : ∃ p, Hid (p = Q.getD k1 0) := ⟨_, Lib.hid rfl⟩
  obtain ⟨q, HQ2⟩ : ∃ q, Hid (q = Q.getD k2 0) := ⟨_, Lib.hid rfl⟩
  obtain ⟨x, HX⟩ : ∃ x, Hid (x = S.K.getD k1 0) := ⟨_, Lib.hid rfl⟩
  obtain ⟨y, HY⟩ : ∃ y, Hid (y = S.start.list.getD k2 0) := ⟨_, Lib.hid rfl⟩
  rw [← HP.out, ← HX.out] at F3
  rw [← HQ2.out, ← HY.out] at F2
  rw [← HP.out] at G1
  rw [← HQ2.out] at G2
  have L3 := Lib.hid (fun k hk => S.w3_low (p := p) (k := k) G1.1 hk)
  have U3 := Lib.hid (S.w3_high G1.2)
  have W3 := S.w3_le p
  unfold S.F3 at F3
  simp only [Bool.and_eq_true, Bool.or_eq_true, decide_eq_true_eq] at F3
  unfold S.F2 at F2
  simp only [Bool.and_eq_true, Bool.or_eq_true, decide_eq_true_eq] at F2
  have L2 := Lib.hid (fun k hk => S.w2_low (p := q) (k := k) G2.1 hk)
  have U2 := Lib.hid (S.w2_high F2.2)
  have W2 := S.w2_le q
  generalize S.whole3 p = a3 at F3 L3 U3 W3
  generalize S.whole2 q = a2 at F2 L2 U2 W2
  have F3 := Lib.hid F3
  have F2 := Lib.hid F2
  have HIP := Lib.hid HQ.pr
  clear hK HQ
  go_enter Tryd.func5, Tryd.ntmps5
  go_wp2_with fail
  refine (HPC.out _).mono ?_
  rintro e w1 ⟨v, rfl, hown, hb1⟩
  obtain ⟨g, c, cur, rfl, hg, hrow, HC⟩ := S.own_row hown HIP.out (by decide)
  have hc1 := HC k1 hk1l
  have hc2 := HC k2 (by omega)
  rw [← HP.out] at hc1
  rw [← HQ2.out] at hc2
  have hd1 := hrow.cell hc1
  have HC2 := Lib.hid hc2
  have HROW := Lib.hid hrow
  have HB1 := Lib.hid hb1
  clear hown HC hc1 hc2 hrow hb1 HPC
  go_wp2_with fail
  clear hd1
  go_loopw [5] (fun v wz => ∃ k : Nat, k ≤ a3 ∧ v = .int .u64 k ∧ wz = w1) (fun v _ => a3 - (intOf v).toNat)
  case atStart => exact ⟨0, Nat.zero_le _, rfl, rfl⟩
  case round =>
    obtain ⟨k, hk, rfl, rfl⟩ := hrel
    obtain ⟨n1, hn1⟩ : ∃ n1, n1 = (k + 1) * (k + 1) := ⟨_, rfl⟩
    obtain ⟨n2, hn2⟩ : ∃ n2, n2 = n1 * (k + 1) := ⟨_, rfl⟩
    have b1 : n1 ≤ 49 := by rw [hn1]; exact Nat.mul_le_mul (show k + 1 ≤ 7 by omega) (show k + 1 ≤ 7 by omega)
    have b2 : n2 ≤ 343 := by rw [hn2]; exact Nat.mul_le_mul b1 (show k + 1 ≤ 7 by omega)
    have e1 : ((k : Int) + 1) * ((k : Int) + 1) = (n1 : Int) := by rw [hn1]; simp
    have e2 : (n1 : Int) * ((k : Int) + 1) = (n2 : Int) := by rw [hn2]; simp
    by_cases hlt : k < a3
    · have hle : (n2 : Int) ≤ (p : Int) := by have := L3.out k hlt; rw [← hn1, ← hn2] at this; omega
      clear hn1 hn2
      go_wp2_with fail
      go_roundw
      case rel => first | exact ⟨k + 1, by omega, by go_num, by trivial⟩ | ((repeat apply Exists.intro); exact ⟨⟨k + 1, by omega, by go_num, by trivial⟩, rfl⟩)
      case measure => simp [intOf]; omega
    · obtain rfl : k = a3 := by omega
      have hgt : ¬ (n2 : Int) ≤ (p : Int) := by have := U3.out; rw [← hn1, ← hn2] at this; omega
      clear hn1 hn2
      go_wp2_with fail
      obtain ⟨m, hm⟩ : ∃ m, m = k * 4294967296 + x := ⟨_, rfl⟩
      have F3' := F3.out
      rw [← hm] at F3'
      have hxl : x < 4294967296 := F3'.2
      have hml : m < 30064771072 := by omega
      obtain ⟨m1, hm1⟩ : ∃ m1, m1 = m + 1 := ⟨_, rfl⟩
      rw [← hm1] at F3'
      have T1 := fun w => cube_any m (by omega) w
      have T2 := fun w => cube_any m1 (by omega) w
      generalize S.cHi m = aH at T1 F3'
      generalize S.lLo (S.lLo m m) m = aL at T1
      generalize S.cHi m1 = bH at T2 F3'
      generalize S.lLo (S.lLo m1 m1) m1 = bL at T2 F3'
      replace T1 := Lib.hid T1
      replace T2 := Lib.hid T2
      have hms : (k : Int) * 4294967296 + (x : Int) = (m : Int) := by omega
      have hms1 : (m : Int) + 1 = (m1 : Int) := by omega
      obtain ⟨P, hP⟩ : ∃ P, P = p * 4294967296 := ⟨_, rfl⟩
      rw [← hP] at F3'
      have hPs : (p : Int) * 4294967296 = (P : Int) := by omega
      have hPl : (P : Int) < 1340029796352 := by omega
      have hAP : (aH : Int) < (P : Int) := by omega
      have hPB : (P : Int) ≤ (bH : Int) := by omega
      have hAe : ((aH : Int) == (P : Int)) = false := by rw [beq_eq_false_iff_ne]; omega
      have HBP := Lib.hid F3'.1.2
      clear F3' hm hm1 hP hgt e1 e2 b1 b2
      have HKc := Constants_any wr (HK.out.below HB1.out (by omega))
      obtain ⟨KL, HKL⟩ : ∃ KL, Hid (KL = S.K.map S.wordV) := ⟨_, Lib.hid rfl⟩
      have HKi := Lib.hid (show (Tryd.prog.info? 50).map (·.size) = some KL.toArray.size by rw [HKL.out]; exact S.info_words)
      have HKn := Lib.hid (show KL.length = 64 by rw [HKL.out]; rfl)
      have HKo := Lib.hid (show KL.toArray.all (·.oneCell') = true by rw [HKL.out]; exact S.wvals_one _)
      have HKx := Lib.hid (show KL[k1]? = some (.int .u32 (x : Nat)) by rw [HKL.out, HX.out]; exact S.K_at hk1l)
      rw [← HKL.out] at HKc
      refine HKc.mono ?_
      rintro e w2 ⟨rfl, hb2⟩
      have hrow2 := HROW.out.below hb2 HROW.out.lt
      have hb02 := HB1.out.trans (hb2.mono HB1.out.size)
      clear HKc hb2
      go_wp2_with (refine S.wpList_store_but rfl 50 (.tmp 6) (.tmp 29) rfl w2.heap.size KL rfl rfl _ _ (S.Row.made _ _ (Array.replicate 64 (S.wordV 0)) rfl rfl) HKi.out (by rw [HKn.out]; rfl) HKo.out ?_; intro w3 hr3 hbut3; have ck := hr3.cell HKx.out)
      have HF := Lib.hid (show (aH : Int) < (p : Int) * 4294967296 ∧ (p : Int) * 4294967296 ≤ (bH : Int) by omega)
      replace HBP := Lib.hid (show (p : Int) * 4294967296 < (bH : Int) ∨ 0 < (bL : Int) by have := HBP.out; omega)
      clear hPs hPl hAP hPB hAe
      refine (T1.out _).mono ?_
      rintro e w4 ⟨rfl, hb4⟩
      have hrow4 := (hbut3.row (hrow2.alloc _) (by have := hrow2.lt; omega)).below hb4 (by have := (hbut3.row (hrow2.alloc _) (by have := hrow2.lt; omega)).lt; omega)
      have hb04 := ((hb02.alloc hb02.size (.cells (Array.replicate 64 (S.wordV 0)) 50)).trans (hbut3.below (C := w.heap.size) hb02.size (by have := hb02.size; simp; omega))).trans (hb4.mono (Nat.le_trans hb02.size (Nat.le_of_lt hr3.lt)))
      clear hrow2 hb02 hbut3 hr3 ck hb4
      go_wp2_with fail
      refine (T2.out _).mono ?_
      rintro e w5 ⟨rfl, hb5⟩
      have hrow5 := hrow4.below hb5 hrow4.lt
      have hb05 := hb04.trans (hb5.mono hb04.size)
      clear hrow4 hb04 hb5 T1 T2
      go_wp2_with (refine S.stop_here 48 (.tmp 43) rfl ?_)
      generalize hw7 : ((w5.alloc _).alloc _) = w7
      have r87 : S.Row w7 w5.heap.size 54 [.int .u64 aH, .int .u64 aL] := by rw [← hw7]; exact (S.Row.made _ _ _ rfl rfl).alloc _
      have r97 : S.Row w7 (w5.heap.size + 1) 54 [.int .u64 bH, .int .u64 bL] := by rw [← hw7]; exact S.Row.made _ _ _ (by simp) rfl
      have hrow7 : S.Row w7 g 48 cur := by rw [← hw7]; exact (hrow5.alloc _).alloc _
      have hb07 : Below w.heap.size w w7 := by rw [← hw7]; exact (hb05.alloc hb05.size _).alloc (by have := hb05.size; simp; omega) _
      have hlt5 := hrow5.lt
      clear hw7 hrow5 hb05
      obtain ⟨b8, HB8⟩ : ∃ b8, Hid (b8 = w5.heap.size) := ⟨_, Lib.hid rfl⟩
      rw [← HB8.out] at r87 r97 hlt5 ⊢
      have c80 := r87.cell (j := 0) (v := .int .u64 aH) rfl
      have c81 := r87.cell (j := 1) (v := .int .u64 aL) rfl
      have c90 := r97.cell (j := 0) (v := .int .u64 bH) rfl
      have c91 := r97.cell (j := 1) (v := .int .u64 bL) rfl
      have d1 : decide ((p : Int) * 4294967296 < (aH : Int)) = false := decide_eq_false (by have := HF.out; omega)
      have d2 : ((aH : Int) == (p : Int) * 4294967296) = false := beq_eq_false_iff_ne.2 (by have := HF.out; omega)
      have d3 : decide ((bH : Int) < (p : Int) * 4294967296) = false := decide_eq_false (by have := HF.out; omega)
      have dw : IntKind.u64.wrap ((p : Int) * 4294967296) = (p : Int) * 4294967296 := by rw [S.wrap_u64']; omega
      refine S.Stopped.mk ?_
      by_cases hbe : (bH : Int) = (p : Int) * 4294967296
      · have d4 : ((bH : Int) == (p : Int) * 4294967296) = true := by rw [beq_iff_eq]; exact hbe
        have d5 : ((bL : Int) == 0) = false := beq_eq_false_iff_ne.2 (by have := HBP.out; omega)
        clear hbe
        refine S.step_val (v := ?_) ?_ ?_ ?_
        rotate_left 1
        · rfl
        · go_simp
          (try with_reducible rfl)
        (try simp only [Act.put, List.setIfInBounds_toArray, List.set_cons_zero, List.set_cons_succ])
        refine S.step_val (v := ?_) ?_ ?_ ?_
        rotate_left 1
        · rfl
        · go_simp
          (try with_reducible rfl)
        (try simp only [Act.put, List.setIfInBounds_toArray, List.set_cons_zero, List.set_cons_succ])
        refine S.step_val (v := ?_) ?_ ?_ ?_
        rotate_left 1
        · rfl
        · go_simp
          (try with_reducible rfl)
        (try simp only [Act.put, List.setIfInBounds_toArray, List.set_cons_zero, List.set_cons_succ])
        refine S.step_val (v := ?_) ?_ ?_ ?_
        rotate_left 1
        · rfl
        · go_simp
          (try with_reducible rfl)
        (try simp only [Act.put, List.setIfInBounds_toArray, List.set_cons_zero, List.set_cons_succ])
        refine S.step_val (v := ?_) ?_ ?_ ?_
        rotate_left 1
        · rfl
        · go_simp
          (try with_reducible rfl)
        (try simp only [Act.put, List.setIfInBounds_toArray, List.set_cons_zero, List.set_cons_succ])
        refine S.step_val (v := ?_) ?_ ?_ ?_
        rotate_left 1
        · rfl
        · go_simp
          (try with_reducible rfl)
        (try simp only [Act.put, List.setIfInBounds_toArray, List.set_cons_zero, List.set_cons_succ])
        refine S.step_val (v := ?_) ?_ ?_ ?_
        rotate_left 1
        · rfl
        · go_simp
          (try with_reducible rfl)
        (try simp only [Act.put, List.setIfInBounds_toArray, List.set_cons_zero, List.set_cons_succ])
        refine S.step_val (v := ?_) ?_ ?_ ?_
        rotate_left 1
        · rfl
        · go_simp
          (try with_reducible rfl)
        (try simp only [Act.put, List.setIfInBounds_toArray, List.set_cons_zero, List.set_cons_succ])
        refine S.step_val (v := ?_) ?_ ?_ ?_
        rotate_left 1
        · rfl
        · go_simp
          (try with_reducible rfl)
        (try simp only [Act.put, List.setIfInBounds_toArray, List.set_cons_zero, List.set_cons_succ])
        refine S.step_val (v := ?_) ?_ ?_ ?_
        rotate_left 1
        · rfl
        · go_simp
          (try with_reducible rfl)
        (try simp only [Act.put, List.setIfInBounds_toArray, List.set_cons_zero, List.set_cons_succ])
        refine S.step_val (v := ?_) ?_ ?_ ?_
        rotate_left 1
        · rfl
        · go_simp
          (try with_reducible rfl)
        (try simp only [Act.put, List.setIfInBounds_toArray, List.set_cons_zero, List.set_cons_succ])
        with_reducible refine S.step_skip ?_ ?_
        · rfl
        (try simp only [Act.put, List.setIfInBounds_toArray, List.set_cons_zero, List.set_cons_succ])
        with_reducible refine S.step_skip ?_ ?_
        · rfl
        (try simp only [Act.put, List.setIfInBounds_toArray, List.set_cons_zero, List.set_cons_succ])
        with_reducible refine S.step_skip ?_ ?_
        · rfl
        (try simp only [Act.put, List.setIfInBounds_toArray, List.set_cons_zero, List.set_cons_succ])
        refine S.step_val (v := ?_) ?_ ?_ ?_
        rotate_left 1
        · rfl
        · go_simp
          (try with_reducible rfl)
        (try simp only [Act.put, List.setIfInBounds_toArray, List.set_cons_zero, List.set_cons_succ])
        refine S.step_val (v := ?_) ?_ ?_ ?_
        rotate_left 1
        · rfl
        · go_simp
          (try with_reducible rfl)
        (try simp only [Act.put, List.setIfInBounds_toArray, List.set_cons_zero, List.set_cons_succ])
        refine S.step_val (v := ?_) ?_ ?_ ?_
        rotate_left 1
        · rfl
        · go_simp
          (try with_reducible rfl)
        (try simp only [Act.put, List.setIfInBounds_toArray, List.set_cons_zero, List.set_cons_succ])
        refine S.step_val (v := ?_) ?_ ?_ ?_
        rotate_left 1
        · rfl
        · go_simp
          (try with_reducible rfl)
        (try simp only [Act.put, List.setIfInBounds_toArray, List.set_cons_zero, List.set_cons_succ])
        refine S.step_val (v := ?_) ?_ ?_ ?_
        rotate_left 1
        · rfl
        · go_simp
          (try with_reducible rfl)
        (try simp only [Act.put, List.setIfInBounds_toArray, List.set_cons_zero, List.set_cons_succ])
        refine S.step_val (v := ?_) ?_ ?_ ?_
        rotate_left 1
        · rfl
        · go_simp
          (try with_reducible rfl)
        (try simp only [Act.put, List.setIfInBounds_toArray, List.set_cons_zero, List.set_cons_succ])
        refine S.step_val (v := ?_) ?_ ?_ ?_
        rotate_left 1
        · rfl
        · go_simp
          (try with_reducible rfl)
        (try simp only [Act.put, List.setIfInBounds_toArray, List.set_cons_zero, List.set_cons_succ])
        refine S.step_val (v := ?_) ?_ ?_ ?_
        rotate_left 1
        · rfl
        · go_simp
          (try with_reducible rfl)
        (try simp only [Act.put, List.setIfInBounds_toArray, List.set_cons_zero, List.set_cons_succ])
        refine S.step_val (v := ?_) ?_ ?_ ?_
        rotate_left 1
        · rfl
        · go_simp
          (try with_reducible rfl)
        (try simp only [Act.put, List.setIfInBounds_toArray, List.set_cons_zero, List.set_cons_succ])
        refine S.step_val (v := ?_) ?_ ?_ ?_
        rotate_left 1
        · rfl
        · go_simp
          (try with_reducible rfl)
        (try simp only [Act.put, List.setIfInBounds_toArray, List.set_cons_zero, List.set_cons_succ])
        refine S.step_val (v := ?_) ?_ ?_ ?_
        rotate_left 1
        · rfl
        · go_simp
          (try with_reducible rfl)
        (try simp only [Act.put, List.setIfInBounds_toArray, List.set_cons_zero, List.set_cons_succ])
        refine S.step_val (v := ?_) ?_ ?_ ?_
        rotate_left 1
        · rfl
        · go_simp
          (try with_reducible rfl)
        (try simp only [Act.put, List.setIfInBounds_toArray, List.set_cons_zero, List.set_cons_succ])
        refine S.step_val (v := ?_) ?_ ?_ ?_
        rotate_left 1
        · rfl
        · go_simp
          (try with_reducible rfl)
        (try simp only [Act.put, List.setIfInBounds_toArray, List.set_cons_zero, List.set_cons_succ])
        refine S.step_val (v := ?_) ?_ ?_ ?_
        rotate_left 1
        · rfl
        · go_simp
          (try with_reducible rfl)
        (try simp only [Act.put, List.setIfInBounds_toArray, List.set_cons_zero, List.set_cons_succ])
        refine S.step_val (v := ?_) ?_ ?_ ?_
        rotate_left 1
        · rfl
        · go_simp
          (try with_reducible rfl)
        (try simp only [Act.put, List.setIfInBounds_toArray, List.set_cons_zero, List.set_cons_succ])
        refine S.step_val (v := ?_) ?_ ?_ ?_
        rotate_left 1
        · rfl
        · go_simp
          (try with_reducible rfl)
        (try simp only [Act.put, List.setIfInBounds_toArray, List.set_cons_zero, List.set_cons_succ])
        refine S.step_val (v := ?_) ?_ ?_ ?_
        rotate_left 1
        · rfl
        · go_simp
          (try with_reducible rfl)
        (try simp only [Act.put, List.setIfInBounds_toArray, List.set_cons_zero, List.set_cons_succ])
        refine S.step_val (v := ?_) ?_ ?_ ?_
        rotate_left 1
        · rfl
        · go_simp
          (try with_reducible rfl)
        (try simp only [Act.put, List.setIfInBounds_toArray, List.set_cons_zero, List.set_cons_succ])
        refine S.step_val (v := ?_) ?_ ?_ ?_
        rotate_left 1
        · rfl
        · go_simp
          (try with_reducible rfl)
        (try simp only [Act.put, List.setIfInBounds_toArray, List.set_cons_zero, List.set_cons_succ])
        refine S.step_val (v := ?_) ?_ ?_ ?_
        rotate_left 1
        · rfl
        · go_simp
          (try with_reducible rfl)
        (try simp only [Act.put, List.setIfInBounds_toArray, List.set_cons_zero, List.set_cons_succ])
        refine S.step_val (v := ?_) ?_ ?_ ?_
        rotate_left 1
        · rfl
        · go_simp
          (try with_reducible rfl)
        (try simp only [Act.put, List.setIfInBounds_toArray, List.set_cons_zero, List.set_cons_succ])
        have hd2 := hrow7.cell HC2.out
        clear c80 c81 c90 c91 d1 d2 d3 d4 dw
        go_wp2_with fail
        clear hd2
        go_loopw [5] (fun v wz => ∃ j : Nat, j ≤ a2 ∧ v = .int .u64 j ∧ wz = w7) (fun v _ => a2 - (intOf v).toNat)
        case atStart => exact ⟨0, Nat.zero_le _, rfl, rfl⟩
        case round =>
          obtain ⟨j, hj, rfl, rfl⟩ := hrel
          obtain ⟨q1, hq1⟩ : ∃ q1, q1 = (j + 1) * (j + 1) := ⟨_, rfl⟩
          have bq1 : q1 ≤ 25 := by rw [hq1]; exact Nat.mul_le_mul (show j + 1 ≤ 5 by omega) (show j + 1 ≤ 5 by omega)
          have eq1 : ((j : Int) + 1) * ((j : Int) + 1) = (q1 : Int) := by rw [hq1]; simp
          by_cases hlt2 : j < a2
          · have hle : (q1 : Int) ≤ (q : Int) := by have := L2.out j hlt2; rw [← hq1] at this; omega
            clear hq1
            go_wp2_with fail
            go_roundw
            case rel => first | exact ⟨j + 1, by omega, by go_num, by trivial⟩ | ((repeat apply Exists.intro); exact ⟨⟨j + 1, by omega, by go_num, by trivial⟩, rfl⟩)
            case measure => simp [intOf]; omega
          · obtain rfl : j = a2 := by omega
            have hgt : ¬ (q1 : Int) ≤ (q : Int) := by have := U2.out; rw [← hq1] at this; omega
            clear hq1
            go_wp2_with fail
            obtain ⟨m2, hm2⟩ : ∃ m2, m2 = j * 4294967296 + y := ⟨_, rfl⟩
            have F2' := F2.out
            rw [← hm2] at F2'
            have hyl : y < 4294967296 := F2'.1.2
            have hm2l : m2 < 21474836480 := by omega
            obtain ⟨m3, hm3⟩ : ∃ m3, m3 = m2 + 1 := ⟨_, rfl⟩
            rw [← hm3] at F2'
            have U1 := fun w => ltimes_any m2 m2 (by omega) (by omega) w
            have U3' := fun w => ltimes_any m3 m3 (by omega) (by omega) w
            generalize S.tHi m2 m2 = eH at U1 F2'
            generalize S.lLo m2 m2 = eL at U1
            generalize S.tHi m3 m3 = fH at U3' F2'
            generalize S.lLo m3 m3 = fL at U3' F2'
            replace U1 := Lib.hid U1
            replace U3' := Lib.hid U3'
            have hms2 : (j : Int) * 4294967296 + (y : Int) = (m2 : Int) := by omega
            have hms3 : (m2 : Int) + 1 = (m3 : Int) := by omega
            have HG := Lib.hid F2'
            clear F2' hm2 hm3 hgt eq1 bq1
            have HSt := Start_any wr (HK.out.below hb07 (by omega))
            obtain ⟨SV, HSV⟩ : ∃ SV, Hid (SV = S.vals S.start) := ⟨_, Lib.hid rfl⟩
            have HSi := Lib.hid (show (Tryd.prog.info? 56).map (·.size) = some SV.size by rw [HSV.out]; exact S.info_vals _)
            have HSn := Lib.hid (show SV.toList.length = 8 by rw [HSV.out]; rfl)
            have HSo := Lib.hid (show SV.all (·.oneCell') = true by rw [HSV.out]; exact S.vals_one _)
            have HSx := Lib.hid (show SV.toList[k2]? = some (.int .u32 (y : Nat)) by rw [HSV.out, HY.out]; exact S.vals_at S.start hk2l)
            rw [← HSV.out] at HSt
            refine HSt.mono ?_
            rintro e w8 ⟨rfl, hb8⟩
            have r88 := r87.below hb8 r87.lt
            have r98 := r97.below hb8 r97.lt
            have hb08 := hb07.trans (hb8.mono hb07.size)
            clear HSt hb8 r87 r97 hrow7 hb07
            go_wp2_with (refine S.wpList_store_but rfl 56 (.tmp 10) (.tmp 93) rfl w8.heap.size SV.toList rfl rfl _ _ (S.Row.made _ _ (Array.replicate 8 (S.wordV 0)) rfl rfl) HSi.out (by rw [HSn.out]; rfl) HSo.out ?_; intro w9 hr9 hbut9; have cs := hr9.cell HSx.out)
            have r89 := hbut9.row (r88.alloc _) (by have := r88.lt; omega)
            have r99 := hbut9.row (r98.alloc _) (by have := r98.lt; omega)
            have hb09 := (hb08.alloc hb08.size (.cells (Array.replicate 8 (S.wordV 0)) 56)).trans (hbut9.below (C := w.heap.size) hb08.size (by have := hb08.size; simp; omega))
            clear r88 r98 hb08 hbut9 hr9 cs
            refine (U1.out _).mono ?_
            rintro e w10 ⟨rfl, hb10⟩
            have r8a := r89.below hb10 r89.lt
            have r9a := r99.below hb10 r99.lt
            have hb010 := hb09.trans (hb10.mono hb09.size)
            clear r89 r99 hb09 hb10
            go_wp2_with fail
            rename_i hcont
            refine (U3'.out _).mono ?_
            rintro e w11 ⟨rfl, hb11⟩
            refine hcont _ _ ?_
            clear hcont
            have r8b := r8a.below hb11 r8a.lt
            have r9b := r9a.below hb11 r9a.lt
            have hb011 := hb010.trans (hb11.mono hb010.size)
            clear r8a r9a hb010 hb11 U1 U3'
            refine S.wpList_store_but rfl 54 (.tmp 8) (.tmp 104) rfl b8 [.int .u64 eH, .int .u64 eL] rfl rfl _ _ r8b S.info_lwide rfl (by simp [Value.oneCell']) ?_
            intro w12 r8c hbut12
            (try simp only [Act.put, List.setIfInBounds_toArray, List.set_cons_zero, List.set_cons_succ])
            have r9c := hbut12.row r9b (by omega)
            have hb012 := hb011.trans (hbut12.below (C := w.heap.size) (by have := HB8.out; omega) hb011.size)
            clear r8b r9b hb011 hbut12
            refine S.wpList_store_but rfl 54 (.tmp 9) (.tmp 109) rfl (b8 + 1) [.int .u64 fH, .int .u64 fL] rfl rfl _ _ r9c S.info_lwide rfl (by simp [Value.oneCell']) ?_
            intro w13 r9d hbut13
            (try simp only [Act.put, List.setIfInBounds_toArray, List.set_cons_zero, List.set_cons_succ])
            have r8d := hbut13.row r8c (by omega)
            have HB13 := Lib.hid (hb012.trans (hbut13.below (C := w.heap.size) (by have := HB8.out; omega) hb012.size))
            clear r8c r9c hb012 hbut13
            go_wp2_with (refine S.stop_here 48 (.tmp 110) rfl ?_)
            have c80 := r8d.cell (j := 0) (v := .int .u64 eH) rfl
            have c81 := r8d.cell (j := 1) (v := .int .u64 eL) rfl
            have c90 := r9d.cell (j := 0) (v := .int .u64 fH) rfl
            have c91 := r9d.cell (j := 1) (v := .int .u64 fL) rfl
            refine S.Stopped.mk ?_
            refine S.step_val (v := ?_) ?_ ?_ ?_
            rotate_left 1
            · rfl
            · go_simp
              (try with_reducible rfl)
            (try simp only [Act.put, List.setIfInBounds_toArray, List.set_cons_zero, List.set_cons_succ])
            refine S.step_val (v := ?_) ?_ ?_ ?_
            rotate_left 1
            · rfl
            · go_simp
              (try with_reducible rfl)
            (try simp only [Act.put, List.setIfInBounds_toArray, List.set_cons_zero, List.set_cons_succ])
            refine S.step_val (v := ?_) ?_ ?_ ?_
            rotate_left 1
            · rfl
            · go_simp
              (try with_reducible rfl)
            (try simp only [Act.put, List.setIfInBounds_toArray, List.set_cons_zero, List.set_cons_succ])
            rw [show decide (eH < q) = true from decide_eq_true HG.out.1.1.1.1]
            refine S.step_val (v := ?_) ?_ ?_ ?_
            rotate_left 1
            · rfl
            · go_simp
              (try with_reducible rfl)
            (try simp only [Act.put, List.setIfInBounds_toArray, List.set_cons_zero, List.set_cons_succ])
            with_reducible refine S.step_skip ?_ ?_
            · rfl
            (try simp only [Act.put, List.setIfInBounds_toArray, List.set_cons_zero, List.set_cons_succ])
            with_reducible refine S.step_skip ?_ ?_
            · rfl
            (try simp only [Act.put, List.setIfInBounds_toArray, List.set_cons_zero, List.set_cons_succ])
            with_reducible refine S.step_skip ?_ ?_
            · rfl
            (try simp only [Act.put, List.setIfInBounds_toArray, List.set_cons_zero, List.set_cons_succ])
            with_reducible refine S.step_skip ?_ ?_
            · rfl
            (try simp only [Act.put, List.setIfInBounds_toArray, List.set_cons_zero, List.set_cons_succ])
            with_reducible refine S.step_skip ?_ ?_
            · rfl
            (try simp only [Act.put, List.setIfInBounds_toArray, List.set_cons_zero, List.set_cons_succ])
            with_reducible refine S.step_skip ?_ ?_
            · rfl
            (try simp only [Act.put, List.setIfInBounds_toArray, List.set_cons_zero, List.set_cons_succ])
            with_reducible refine S.step_skip ?_ ?_
            · rfl
            (try simp only [Act.put, List.setIfInBounds_toArray, List.set_cons_zero, List.set_cons_succ])
            with_reducible refine S.step_skip ?_ ?_
            · rfl
            (try simp only [Act.put, List.setIfInBounds_toArray, List.set_cons_zero, List.set_cons_succ])
            with_reducible refine S.step_skip ?_ ?_
            · rfl
            (try simp only [Act.put, List.setIfInBounds_toArray, List.set_cons_zero, List.set_cons_succ])
            refine S.step_val (v := ?_) ?_ ?_ ?_
            rotate_left 1
            · rfl
            · go_simp
              (try with_reducible rfl)
            (try simp only [Act.put, List.setIfInBounds_toArray, List.set_cons_zero, List.set_cons_succ])
            refine S.step_val (v := ?_) ?_ ?_ ?_
            rotate_left 1
            · rfl
            · go_simp
              (try with_reducible rfl)
            (try simp only [Act.put, List.setIfInBounds_toArray, List.set_cons_zero, List.set_cons_succ])
            refine S.step_val (v := ?_) ?_ ?_ ?_
            rotate_left 1
            · rfl
            · go_simp
              (try with_reducible rfl)
            (try simp only [Act.put, List.setIfInBounds_toArray, List.set_cons_zero, List.set_cons_succ])
            refine S.step_val (v := ?_) ?_ ?_ ?_
            rotate_left 1
            · rfl
            · go_simp
              (try with_reducible rfl)
            (try simp only [Act.put, List.setIfInBounds_toArray, List.set_cons_zero, List.set_cons_succ])
            refine S.step_val (v := ?_) ?_ ?_ ?_
            rotate_left 1
            · rfl
            · go_simp
              (try with_reducible rfl)
            (try simp only [Act.put, List.setIfInBounds_toArray, List.set_cons_zero, List.set_cons_succ])
            refine S.step_val (v := ?_) ?_ ?_ ?_
            rotate_left 1
            · rfl
            · go_simp
              (try with_reducible rfl)
            (try simp only [Act.put, List.setIfInBounds_toArray, List.set_cons_zero, List.set_cons_succ])
            rw [show decide (q < fH) = false from decide_eq_false (by have := HG.out.1.1.1.2; omega)]
            refine S.step_val (v := ?_) ?_ ?_ ?_
            rotate_left 1
            · rfl
            · go_simp
              (try with_reducible rfl)
            (try simp only [Act.put, List.setIfInBounds_toArray, List.set_cons_zero, List.set_cons_succ])
            refine S.step_val (v := ?_) ?_ ?_ ?_
            rotate_left 1
            · rfl
            · go_simp
              (try with_reducible rfl)
            (try simp only [Act.put, List.setIfInBounds_toArray, List.set_cons_zero, List.set_cons_succ])
            refine S.step_val (v := ?_) ?_ ?_ ?_
            rotate_left 1
            · rfl
            · go_simp
              (try with_reducible rfl)
            (try simp only [Act.put, List.setIfInBounds_toArray, List.set_cons_zero, List.set_cons_succ])
            refine S.step_val (v := ?_) ?_ ?_ ?_
            rotate_left 1
            · rfl
            · go_simp
              (try with_reducible rfl)
            (try simp only [Act.put, List.setIfInBounds_toArray, List.set_cons_zero, List.set_cons_succ])
            refine S.step_val (v := ?_) ?_ ?_ ?_
            rotate_left 1
            · rfl
            · go_simp
              (try with_reducible rfl)
            (try simp only [Act.put, List.setIfInBounds_toArray, List.set_cons_zero, List.set_cons_succ])
            first | (rw [show ((fH : Int) == (q : Int)) = true by rw [beq_iff_eq]; have := HG.out.1.1.1.2; omega]) | (rw [show (fH == q) = true by rw [beq_iff_eq]; exact HG.out.1.1.1.2])
            refine S.step_val (v := ?_) ?_ ?_ ?_
            rotate_left 1
            · rfl
            · go_simp
              (try with_reducible rfl)
            (try simp only [Act.put, List.setIfInBounds_toArray, List.set_cons_zero, List.set_cons_succ])
            refine S.step_val (v := ?_) ?_ ?_ ?_
            rotate_left 1
            · rfl
            · go_simp
              (try with_reducible rfl)
            (try simp only [Act.put, List.setIfInBounds_toArray, List.set_cons_zero, List.set_cons_succ])
            refine S.step_val (v := ?_) ?_ ?_ ?_
            rotate_left 1
            · rfl
            · go_simp
              (try with_reducible rfl)
            (try simp only [Act.put, List.setIfInBounds_toArray, List.set_cons_zero, List.set_cons_succ])
            refine S.step_val (v := ?_) ?_ ?_ ?_
            rotate_left 1
            · rfl
            · go_simp
              (try with_reducible rfl)
            (try simp only [Act.put, List.setIfInBounds_toArray, List.set_cons_zero, List.set_cons_succ])
            rw [show decide (0 < fL) = true from decide_eq_true HG.out.1.1.2]
            refine S.step_val (v := ?_) ?_ ?_ ?_
            rotate_left 1
            · rfl
            · go_simp
              (try with_reducible rfl)
            (try simp only [Act.put, List.setIfInBounds_toArray, List.set_cons_zero, List.set_cons_succ])
            refine S.step_val (v := ?_) ?_ ?_ ?_
            rotate_left 1
            · rfl
            · go_simp
              (try with_reducible rfl)
            (try simp only [Act.put, List.setIfInBounds_toArray, List.set_cons_zero, List.set_cons_succ])
            refine S.step_val (v := ?_) ?_ ?_ ?_
            rotate_left 1
            · rfl
            · go_simp
              (try with_reducible rfl)
            (try simp only [Act.put, List.setIfInBounds_toArray, List.set_cons_zero, List.set_cons_succ])
            refine S.step_val (v := ?_) ?_ ?_ ?_
            rotate_left 1
            · rfl
            · go_simp
              (try with_reducible rfl)
            (try simp only [Act.put, List.setIfInBounds_toArray, List.set_cons_zero, List.set_cons_succ])
            clear c80 c81 c90 c91 r8d r9d
            go_wp2_with fail
            refine (shown_any _ (HK.out.below HB13.out (by omega))).mono ?_
            rintro e w14 ⟨rfl, hb14⟩
            have HB14 := Lib.hid (HB13.out.trans (hb14.mono HB13.out.size))
            clear hb14
            go_wp2_with fail
            go_ret
            exact ⟨rfl, HB14.out⟩
      · have d4 : ((bH : Int) == (p : Int) * 4294967296) = false := beq_eq_false_iff_ne.2 hbe
        clear hbe
        refine S.step_val (v := ?_) ?_ ?_ ?_
        rotate_left 1
        · rfl
        · go_simp
          (try with_reducible rfl)
        (try simp only [Act.put, List.setIfInBounds_toArray, List.set_cons_zero, List.set_cons_succ])
        refine S.step_val (v := ?_) ?_ ?_ ?_
        rotate_left 1
        · rfl
        · go_simp
          (try with_reducible rfl)
        (try simp only [Act.put, List.setIfInBounds_toArray, List.set_cons_zero, List.set_cons_succ])
        refine S.step_val (v := ?_) ?_ ?_ ?_
        rotate_left 1
        · rfl
        · go_simp
          (try with_reducible rfl)
        (try simp only [Act.put, List.setIfInBounds_toArray, List.set_cons_zero, List.set_cons_succ])
        refine S.step_val (v := ?_) ?_ ?_ ?_
        rotate_left 1
        · rfl
        · go_simp
          (try with_reducible rfl)
        (try simp only [Act.put, List.setIfInBounds_toArray, List.set_cons_zero, List.set_cons_succ])
        refine S.step_val (v := ?_) ?_ ?_ ?_
        rotate_left 1
        · rfl
        · go_simp
          (try with_reducible rfl)
        (try simp only [Act.put, List.setIfInBounds_toArray, List.set_cons_zero, List.set_cons_succ])
        refine S.step_val (v := ?_) ?_ ?_ ?_
        rotate_left 1
        · rfl
        · go_simp
          (try with_reducible rfl)
        (try simp only [Act.put, List.setIfInBounds_toArray, List.set_cons_zero, List.set_cons_succ])
        refine S.step_val (v := ?_) ?_ ?_ ?_
        rotate_left 1
        · rfl
        · go_simp
          (try with_reducible rfl)
        (try simp only [Act.put, List.setIfInBounds_toArray, List.set_cons_zero, List.set_cons_succ])
        refine S.step_val (v := ?_) ?_ ?_ ?_
        rotate_left 1
        · rfl
        · go_simp
          (try with_reducible rfl)
        (try simp only [Act.put, List.setIfInBounds_toArray, List.set_cons_zero, List.set_cons_succ])
        refine S.step_val (v := ?_) ?_ ?_ ?_
        rotate_left 1
        · rfl
        · go_simp
          (try with_reducible rfl)
        (try simp only [Act.put, List.setIfInBounds_toArray, List.set_cons_zero, List.set_cons_succ])
        refine S.step_val (v := ?_) ?_ ?_ ?_
        rotate_left 1
        · rfl
        · go_simp
          (try with_reducible rfl)
        (try simp only [Act.put, List.setIfInBounds_toArray, List.set_cons_zero, List.set_cons_succ])
        refine S.step_val (v := ?_) ?_ ?_ ?_
        rotate_left 1
        · rfl
        · go_simp
          (try with_reducible rfl)
        (try simp only [Act.put, List.setIfInBounds_toArray, List.set_cons_zero, List.set_cons_succ])
        with_reducible refine S.step_skip ?_ ?_
        · rfl
        (try simp only [Act.put, List.setIfInBounds_toArray, List.set_cons_zero, List.set_cons_succ])
        with_reducible refine S.step_skip ?_ ?_
        · rfl
        (try simp only [Act.put, List.setIfInBounds_toArray, List.set_cons_zero, List.set_cons_succ])
        with_reducible refine S.step_skip ?_ ?_
        · rfl
        (try simp only [Act.put, List.setIfInBounds_toArray, List.set_cons_zero, List.set_cons_succ])
        refine S.step_val (v := ?_) ?_ ?_ ?_
        rotate_left 1
        · rfl
        · go_simp
          (try with_reducible rfl)
        (try simp only [Act.put, List.setIfInBounds_toArray, List.set_cons_zero, List.set_cons_succ])
        refine S.step_val (v := ?_) ?_ ?_ ?_
        rotate_left 1
        · rfl
        · go_simp
          (try with_reducible rfl)
        (try simp only [Act.put, List.setIfInBounds_toArray, List.set_cons_zero, List.set_cons_succ])
        refine S.step_val (v := ?_) ?_ ?_ ?_
        rotate_left 1
        · rfl
        · go_simp
          (try with_reducible rfl)
        (try simp only [Act.put, List.setIfInBounds_toArray, List.set_cons_zero, List.set_cons_succ])
        refine S.step_val (v := ?_) ?_ ?_ ?_
        rotate_left 1
        · rfl
        · go_simp
          (try with_reducible rfl)
        (try simp only [Act.put, List.setIfInBounds_toArray, List.set_cons_zero, List.set_cons_succ])
        refine S.step_val (v := ?_) ?_ ?_ ?_
        rotate_left 1
        · rfl
        · go_simp
          (try with_reducible rfl)
        (try simp only [Act.put, List.setIfInBounds_toArray, List.set_cons_zero, List.set_cons_succ])
        refine S.step_val (v := ?_) ?_ ?_ ?_
        rotate_left 1
        · rfl
        · go_simp
          (try with_reducible rfl)
        (try simp only [Act.put, List.setIfInBounds_toArray, List.set_cons_zero, List.set_cons_succ])
        refine S.step_val (v := ?_) ?_ ?_ ?_
        rotate_left 1
        · rfl
        · go_simp
          (try with_reducible rfl)
        (try simp only [Act.put, List.setIfInBounds_toArray, List.set_cons_zero, List.set_cons_succ])
        refine S.step_val (v := ?_) ?_ ?_ ?_
        rotate_left 1
        · rfl
        · go_simp
          (try with_reducible rfl)
        (try simp only [Act.put, List.setIfInBounds_toArray, List.set_cons_zero, List.set_cons_succ])
        refine S.step_val (v := ?_) ?_ ?_ ?_
        rotate_left 1
        · rfl
        · go_simp
          (try with_reducible rfl)
        (try simp only [Act.put, List.setIfInBounds_toArray, List.set_cons_zero, List.set_cons_succ])
        refine S.step_val (v := ?_) ?_ ?_ ?_
        rotate_left 1
        · rfl
        · go_simp
          (try with_reducible rfl)
        (try simp only [Act.put, List.setIfInBounds_toArray, List.set_cons_zero, List.set_cons_succ])
        refine S.step_val (v := ?_) ?_ ?_ ?_
        rotate_left 1
        · rfl
        · go_simp
          (try with_reducible rfl)
        (try simp only [Act.put, List.setIfInBounds_toArray, List.set_cons_zero, List.set_cons_succ])
        refine S.step_val (v := ?_) ?_ ?_ ?_
        rotate_left 1
        · rfl
        · go_simp
          (try with_reducible rfl)
        (try simp only [Act.put, List.setIfInBounds_toArray, List.set_cons_zero, List.set_cons_succ])
        refine S.step_val (v := ?_) ?_ ?_ ?_
        rotate_left 1
        · rfl
        · go_simp
          (try with_reducible rfl)
        (try simp only [Act.put, List.setIfInBounds_toArray, List.set_cons_zero, List.set_cons_succ])
        refine S.step_val (v := ?_) ?_ ?_ ?_
        rotate_left 1
        · rfl
        · go_simp
          (try with_reducible rfl)
        (try simp only [Act.put, List.setIfInBounds_toArray, List.set_cons_zero, List.set_cons_succ])
        refine S.step_val (v := ?_) ?_ ?_ ?_
        rotate_left 1
        · rfl
        · go_simp
          (try with_reducible rfl)
        (try simp only [Act.put, List.setIfInBounds_toArray, List.set_cons_zero, List.set_cons_succ])
        refine S.step_val (v := ?_) ?_ ?_ ?_
        rotate_left 1
        · rfl
        · go_simp
          (try with_reducible rfl)
        (try simp only [Act.put, List.setIfInBounds_toArray, List.set_cons_zero, List.set_cons_succ])
        with_reducible refine S.step_skip ?_ ?_
        · rfl
        (try simp only [Act.put, List.setIfInBounds_toArray, List.set_cons_zero, List.set_cons_succ])
        with_reducible refine S.step_skip ?_ ?_
        · rfl
        (try simp only [Act.put, List.setIfInBounds_toArray, List.set_cons_zero, List.set_cons_succ])
        with_reducible refine S.step_skip ?_ ?_
        · rfl
        (try simp only [Act.put, List.setIfInBounds_toArray, List.set_cons_zero, List.set_cons_succ])
        refine S.step_val (v := ?_) ?_ ?_ ?_
        rotate_left 1
        · rfl
        · go_simp
          (try with_reducible rfl)
        (try simp only [Act.put, List.setIfInBounds_toArray, List.set_cons_zero, List.set_cons_succ])
        refine S.step_val (v := ?_) ?_ ?_ ?_
        rotate_left 1
        · rfl
        · go_simp
          (try with_reducible rfl)
        (try simp only [Act.put, List.setIfInBounds_toArray, List.set_cons_zero, List.set_cons_succ])
        have hd2 := hrow7.cell HC2.out
        clear c80 c81 c90 c91 d1 d2 d3 d4 dw
        go_wp2_with fail
        clear hd2
        go_loopw [5] (fun v wz => ∃ j : Nat, j ≤ a2 ∧ v = .int .u64 j ∧ wz = w7) (fun v _ => a2 - (intOf v).toNat)
        case atStart => exact ⟨0, Nat.zero_le _, rfl, rfl⟩
        case round =>
          obtain ⟨j, hj, rfl, rfl⟩ := hrel
          obtain ⟨q1, hq1⟩ : ∃ q1, q1 = (j + 1) * (j + 1) := ⟨_, rfl⟩
          have bq1 : q1 ≤ 25 := by rw [hq1]; exact Nat.mul_le_mul (show j + 1 ≤ 5 by omega) (show j + 1 ≤ 5 by omega)
          have eq1 : ((j : Int) + 1) * ((j : Int) + 1) = (q1 : Int) := by rw [hq1]; simp
          by_cases hlt2 : j < a2
          · have hle : (q1 : Int) ≤ (q : Int) := by have := L2.out j hlt2; rw [← hq1] at this; omega
            clear hq1
            go_wp2_with fail
            go_roundw
            case rel => first | exact ⟨j + 1, by omega, by go_num, by trivial⟩ | ((repeat apply Exists.intro); exact ⟨⟨j + 1, by omega, by go_num, by trivial⟩, rfl⟩)
            case measure => simp [intOf]; omega
          · obtain rfl : j = a2 := by omega
            have hgt : ¬ (q1 : Int) ≤ (q : Int) := by have := U2.out; rw [← hq1] at this; omega
            clear hq1
            go_wp2_with fail
            obtain ⟨m2, hm2⟩ : ∃ m2, m2 = j * 4294967296 + y := ⟨_, rfl⟩
            have F2' := F2.out
            rw [← hm2] at F2'
            have hyl : y < 4294967296 := F2'.1.2
            have hm2l : m2 < 21474836480 := by omega
            obtain ⟨m3, hm3⟩ : ∃ m3, m3 = m2 + 1 := ⟨_, rfl⟩
            rw [← hm3] at F2'
            have U1 := fun w => ltimes_any m2 m2 (by omega) (by omega) w
            have U3' := fun w => ltimes_any m3 m3 (by omega) (by omega) w
            generalize S.tHi m2 m2 = eH at U1 F2'
            generalize S.lLo m2 m2 = eL at U1
            generalize S.tHi m3 m3 = fH at U3' F2'
            generalize S.lLo m3 m3 = fL at U3' F2'
            replace U1 := Lib.hid U1
            replace U3' := Lib.hid U3'
            have hms2 : (j : Int) * 4294967296 + (y : Int) = (m2 : Int) := by omega
            have hms3 : (m2 : Int) + 1 = (m3 : Int) := by omega
            have HG := Lib.hid F2'
            clear F2' hm2 hm3 hgt eq1 bq1
            have HSt := Start_any wr (HK.out.below hb07 (by omega))
            obtain ⟨SV, HSV⟩ : ∃ SV, Hid (SV = S.vals S.start) := ⟨_, Lib.hid rfl⟩
            have HSi := Lib.hid (show (Tryd.prog.info? 56).map (·.size) = some SV.size by rw [HSV.out]; exact S.info_vals _)
            have HSn := Lib.hid (show SV.toList.length = 8 by rw [HSV.out]; rfl)
            have HSo := Lib.hid (show SV.all (·.oneCell') = true by rw [HSV.out]; exact S.vals_one _)
            have HSx := Lib.hid (show SV.toList[k2]? = some (.int .u32 (y : Nat)) by rw [HSV.out, HY.out]; exact S.vals_at S.start hk2l)
            rw [← HSV.out] at HSt
            refine HSt.mono ?_
            rintro e w8 ⟨rfl, hb8⟩
            have r88 := r87.below hb8 r87.lt
            have r98 := r97.below hb8 r97.lt
            have hb08 := hb07.trans (hb8.mono hb07.size)
            clear HSt hb8 r87 r97 hrow7 hb07
            go_wp2_with (refine S.wpList_store_but rfl 56 (.tmp 10) (.tmp 93) rfl w8.heap.size SV.toList rfl rfl _ _ (S.Row.made _ _ (Array.replicate 8 (S.wordV 0)) rfl rfl) HSi.out (by rw [HSn.out]; rfl) HSo.out ?_; intro w9 hr9 hbut9; have cs := hr9.cell HSx.out)
            have r89 := hbut9.row (r88.alloc _) (by have := r88.lt; omega)
            have r99 := hbut9.row (r98.alloc _) (by have := r98.lt; omega)
            have hb09 := (hb08.alloc hb08.size (.cells (Array.replicate 8 (S.wordV 0)) 56)).trans (hbut9.below (C := w.heap.size) hb08.size (by have := hb08.size; simp; omega))
            clear r88 r98 hb08 hbut9 hr9 cs
            refine (U1.out _).mono ?_
            rintro e w10 ⟨rfl, hb10⟩
            have r8a := r89.below hb10 r89.lt
            have r9a := r99.below hb10 r99.lt
            have hb010 := hb09.trans (hb10.mono hb09.size)
            clear r89 r99 hb09 hb10
            go_wp2_with fail
            rename_i hcont
            refine (U3'.out _).mono ?_
            rintro e w11 ⟨rfl, hb11⟩
            refine hcont _ _ ?_
            clear hcont
            have r8b := r8a.below hb11 r8a.lt
            have r9b := r9a.below hb11 r9a.lt
            have hb011 := hb010.trans (hb11.mono hb010.size)
            clear r8a r9a hb010 hb11 U1 U3'
            refine S.wpList_store_but rfl 54 (.tmp 8) (.tmp 104) rfl b8 [.int .u64 eH, .int .u64 eL] rfl rfl _ _ r8b S.info_lwide rfl (by simp [Value.oneCell']) ?_
            intro w12 r8c hbut12
            (try simp only [Act.put, List.setIfInBounds_toArray, List.set_cons_zero, List.set_cons_succ])
            have r9c := hbut12.row r9b (by omega)
            have hb012 := hb011.trans (hbut12.below (C := w.heap.size) (by have := HB8.out; omega) hb011.size)
            clear r8b r9b hb011 hbut12
            refine S.wpList_store_but rfl 54 (.tmp 9) (.tmp 109) rfl (b8 + 1) [.int .u64 fH, .int .u64 fL] rfl rfl _ _ r9c S.info_lwide rfl (by simp [Value.oneCell']) ?_
            intro w13 r9d hbut13
            (try simp only [Act.put, List.setIfInBounds_toArray, List.set_cons_zero, List.set_cons_succ])
            have r8d := hbut13.row r8c (by omega)
            have HB13 := Lib.hid (hb012.trans (hbut13.below (C := w.heap.size) (by have := HB8.out; omega) hb012.size))
            clear r8c r9c hb012 hbut13
            go_wp2_with (refine S.stop_here 48 (.tmp 110) rfl ?_)
            have c80 := r8d.cell (j := 0) (v := .int .u64 eH) rfl
            have c81 := r8d.cell (j := 1) (v := .int .u64 eL) rfl
            have c90 := r9d.cell (j := 0) (v := .int .u64 fH) rfl
            have c91 := r9d.cell (j := 1) (v := .int .u64 fL) rfl
            refine S.Stopped.mk ?_
            refine S.step_val (v := ?_) ?_ ?_ ?_
            rotate_left 1
            · rfl
            · go_simp
              (try with_reducible rfl)
            (try simp only [Act.put, List.setIfInBounds_toArray, List.set_cons_zero, List.set_cons_succ])
            refine S.step_val (v := ?_) ?_ ?_ ?_
            rotate_left 1
            · rfl
            · go_simp
              (try with_reducible rfl)
            (try simp only [Act.put, List.setIfInBounds_toArray, List.set_cons_zero, List.set_cons_succ])
            refine S.step_val (v := ?_) ?_ ?_ ?_
            rotate_left 1
            · rfl
            · go_simp
              (try with_reducible rfl)
            (try simp only [Act.put, List.setIfInBounds_toArray, List.set_cons_zero, List.set_cons_succ])
            rw [show decide (eH < q) = true from decide_eq_true HG.out.1.1.1.1]
            refine S.step_val (v := ?_) ?_ ?_ ?_
            rotate_left 1
            · rfl
            · go_simp
              (try with_reducible rfl)
            (try simp only [Act.put, List.setIfInBounds_toArray, List.set_cons_zero, List.set_cons_succ])
            with_reducible refine S.step_skip ?_ ?_
            · rfl
            (try simp only [Act.put, List.setIfInBounds_toArray, List.set_cons_zero, List.set_cons_succ])
            with_reducible refine S.step_skip ?_ ?_
            · rfl
            (try simp only [Act.put, List.setIfInBounds_toArray, List.set_cons_zero, List.set_cons_succ])
            with_reducible refine S.step_skip ?_ ?_
            · rfl
            (try simp only [Act.put, List.setIfInBounds_toArray, List.set_cons_zero, List.set_cons_succ])
            with_reducible refine S.step_skip ?_ ?_
            · rfl
            (try simp only [Act.put, List.setIfInBounds_toArray, List.set_cons_zero, List.set_cons_succ])
            with_reducible refine S.step_skip ?_ ?_
            · rfl
            (try simp only [Act.put, List.setIfInBounds_toArray, List.set_cons_zero, List.set_cons_succ])
            with_reducible refine S.step_skip ?_ ?_
            · rfl
            (try simp only [Act.put, List.setIfInBounds_toArray, List.set_cons_zero, List.set_cons_succ])
            with_reducible refine S.step_skip ?_ ?_
            · rfl
            (try simp only [Act.put, List.setIfInBounds_toArray, List.set_cons_zero, List.set_cons_succ])
            with_reducible refine S.step_skip ?_ ?_
            · rfl
            (try simp only [Act.put, List.setIfInBounds_toArray, List.set_cons_zero, List.set_cons_succ])
            with_reducible refine S.step_skip ?_ ?_
            · rfl
            (try simp only [Act.put, List.setIfInBounds_toArray, List.set_cons_zero, List.set_cons_succ])
            refine S.step_val (v := ?_) ?_ ?_ ?_
            rotate_left 1
            · rfl
            · go_simp
              (try with_reducible rfl)
            (try simp only [Act.put, List.setIfInBounds_toArray, List.set_cons_zero, List.set_cons_succ])
            refine S.step_val (v := ?_) ?_ ?_ ?_
            rotate_left 1
            · rfl
            · go_simp
              (try with_reducible rfl)
            (try simp only [Act.put, List.setIfInBounds_toArray, List.set_cons_zero, List.set_cons_succ])
            refine S.step_val (v := ?_) ?_ ?_ ?_
            rotate_left 1
            · rfl
            · go_simp
              (try with_reducible rfl)
            (try simp only [Act.put, List.setIfInBounds_toArray, List.set_cons_zero, List.set_cons_succ])
            refine S.step_val (v := ?_) ?_ ?_ ?_
            rotate_left 1
            · rfl
            · go_simp
              (try with_reducible rfl)
            (try simp only [Act.put, List.setIfInBounds_toArray, List.set_cons_zero, List.set_cons_succ])
            refine S.step_val (v := ?_) ?_ ?_ ?_
            rotate_left 1
            · rfl
            · go_simp
              (try with_reducible rfl)
            (try simp only [Act.put, List.setIfInBounds_toArray, List.set_cons_zero, List.set_cons_succ])
            refine S.step_val (v := ?_) ?_ ?_ ?_
            rotate_left 1
            · rfl
            · go_simp
              (try with_reducible rfl)
            (try simp only [Act.put, List.setIfInBounds_toArray, List.set_cons_zero, List.set_cons_succ])
            rw [show decide (q < fH) = false from decide_eq_false (by have := HG.out.1.1.1.2; omega)]
            refine S.step_val (v := ?_) ?_ ?_ ?_
            rotate_left 1
            · rfl
            · go_simp
              (try with_reducible rfl)
            (try simp only [Act.put, List.setIfInBounds_toArray, List.set_cons_zero, List.set_cons_succ])
            refine S.step_val (v := ?_) ?_ ?_ ?_
            rotate_left 1
            · rfl
            · go_simp
              (try with_reducible rfl)
            (try simp only [Act.put, List.setIfInBounds_toArray, List.set_cons_zero, List.set_cons_succ])
            refine S.step_val (v := ?_) ?_ ?_ ?_
            rotate_left 1
            · rfl
            · go_simp
              (try with_reducible rfl)
            (try simp only [Act.put, List.setIfInBounds_toArray, List.set_cons_zero, List.set_cons_succ])
            refine S.step_val (v := ?_) ?_ ?_ ?_
            rotate_left 1
            · rfl
            · go_simp
              (try with_reducible rfl)
            (try simp only [Act.put, List.setIfInBounds_toArray, List.set_cons_zero, List.set_cons_succ])
            refine S.step_val (v := ?_) ?_ ?_ ?_
            rotate_left 1
            · rfl
            · go_simp
              (try with_reducible rfl)
            (try simp only [Act.put, List.setIfInBounds_toArray, List.set_cons_zero, List.set_cons_succ])
            first | (rw [show ((fH : Int) == (q : Int)) = true by rw [beq_iff_eq]; have := HG.out.1.1.1.2; omega]) | (rw [show (fH == q) = true by rw [beq_iff_eq]; exact HG.out.1.1.1.2])
            refine S.step_val (v := ?_) ?_ ?_ ?_
            rotate_left 1
            · rfl
            · go_simp
              (try with_reducible rfl)
            (try simp only [Act.put, List.setIfInBounds_toArray, List.set_cons_zero, List.set_cons_succ])
            refine S.step_val (v := ?_) ?_ ?_ ?_
            rotate_left 1
            · rfl
            · go_simp
              (try with_reducible rfl)
            (try simp only [Act.put, List.setIfInBounds_toArray, List.set_cons_zero, List.set_cons_succ])
            refine S.step_val (v := ?_) ?_ ?_ ?_
            rotate_left 1
            · rfl
            · go_simp
              (try with_reducible rfl)
            (try simp only [Act.put, List.setIfInBounds_toArray, List.set_cons_zero, List.set_cons_succ])
            refine S.step_val (v := ?_) ?_ ?_ ?_
            rotate_left 1
            · rfl
            · go_simp
              (try with_reducible rfl)
            (try simp only [Act.put, List.setIfInBounds_toArray, List.set_cons_zero, List.set_cons_succ])
            rw [show decide (0 < fL) = true from decide_eq_true HG.out.1.1.2]
            refine S.step_val (v := ?_) ?_ ?_ ?_
            rotate_left 1
            · rfl
            · go_simp
              (try with_reducible rfl)
            (try simp only [Act.put, List.setIfInBounds_toArray, List.set_cons_zero, List.set_cons_succ])
            refine S.step_val (v := ?_) ?_ ?_ ?_
            rotate_left 1
            · rfl
            · go_simp
              (try with_reducible rfl)
            (try simp only [Act.put, List.setIfInBounds_toArray, List.set_cons_zero, List.set_cons_succ])
            refine S.step_val (v := ?_) ?_ ?_ ?_
            rotate_left 1
            · rfl
            · go_simp
              (try with_reducible rfl)
            (try simp only [Act.put, List.setIfInBounds_toArray, List.set_cons_zero, List.set_cons_succ])
            refine S.step_val (v := ?_) ?_ ?_ ?_
            rotate_left 1
            · rfl
            · go_simp
              (try with_reducible rfl)
            (try simp only [Act.put, List.setIfInBounds_toArray, List.set_cons_zero, List.set_cons_succ])
            clear c80 c81 c90 c91 r8d r9d
            go_wp2_with fail
            refine (shown_any _ (HK.out.below HB13.out (by omega))).mono ?_
            rintro e w14 ⟨rfl, hb14⟩
            have HB14 := Lib.hid (HB13.out.trans (hb14.mono HB13.out.size))
            clear hb14
            go_wp2_with fail
            go_ret
            exact ⟨rfl, HB14.out⟩
end Go.Proofs.YtgpgnfdbjljljaaDoor
