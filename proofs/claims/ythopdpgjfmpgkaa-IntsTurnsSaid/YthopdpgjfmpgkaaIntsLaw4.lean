/- The walk of IntsTurns. -/
import Derived.Test.YthopdpgjfmpgkaaIntsTMath
namespace Go.Proofs.Ythopdpgjfmpgkaa
open Go.RowKit
set_option maxRecDepth 100000 in
set_option maxHeartbeats 2000000 in
theorem IntsTurns_walk (N V : Nat) (a m k : Int) (j kk : Int) (hN : N < 18446744073709551616) (hV : V < 18446744073709551616) (hj1 : -2147483648 ≤ j) (hj2 : j ≤ 2147483647) (hk1 : -2147483648 ≤ kk) (hk2 : kk ≤ 2147483647) (w : World) :
    Calls Try.prog 10 #[.agg #[.int .u64 N, .int .u64 V, .int .i64 a, .int .i64 m, .int .i64 k], .int .i32 j, .int .i32 kk] w fun e w' => e = .returned (.bool true) ∧ Below w.heap.size w w' := by
  have hba : Below w.heap.size w (w.alloc (.cells #[.int .u64 N, .int .u64 V, .int .i64 a, .int .i64 m, .int .i64 k] 44)) := (Below.refl _ _).alloc (Nat.le_refl _) _
  have HBA := Lib.hid hba
  clear hba
  have hpart : ∃ B : Nat, wrap64 (1 + wrap64 ((IntKind.u64.wrap m).tmod 64)) = B ∧ 1 ≤ B ∧ B ≤ 64 := by
    have h0 : 0 ≤ IntKind.u64.wrap m := by rw [I.wrap_u64]; omega
    rw [Int.tmod_eq_emod_of_nonneg h0]
    exact ⟨(wrap64 (1 + wrap64 (IntKind.u64.wrap m % 64))).toNat, by unfold wrap64; omega, by unfold wrap64; omega, by unfold wrap64; omega⟩
  obtain ⟨B, hB, hB1, hB2⟩ := hpart
  have hpart2 : ∃ At : Nat, wrap64 ((IntKind.u64.wrap a).tmod 64) = At ∧ At < 64 := by
    have h0 : 0 ≤ IntKind.u64.wrap a := by rw [I.wrap_u64]; omega
    rw [Int.tmod_eq_emod_of_nonneg h0]
    exact ⟨(wrap64 (IntKind.u64.wrap a % 64)).toNat, by unfold wrap64; omega, by unfold wrap64; omega⟩
  obtain ⟨At, hAt, hAt64⟩ := hpart2
  have hw : IntKind.u64.wrap (wrap64 (64 - wrap64 ((IntKind.u64.wrap a).tmod 64))) = ((64 - At : Nat) : Int) := by
    rw [hAt, I.wrap_u64]; unfold wrap64; omega
  have hnz : ¬ IntKind.u64.wrap (wrap64 (64 - wrap64 ((IntKind.u64.wrap a).tmod 64))) = 0 := by rw [hw]; omega
  have hpart3 : ∃ M : Nat, wrap64 (1 + wrap64 ((IntKind.u64.wrap m).tmod (IntKind.u64.wrap (wrap64 (64 - wrap64 ((IntKind.u64.wrap a).tmod 64)))))) = M ∧ 1 ≤ M ∧ At + M ≤ 64 := by
    have h0 : 0 ≤ IntKind.u64.wrap m := by rw [I.wrap_u64]; omega
    rw [hw, Int.tmod_eq_emod_of_nonneg h0]
    have h1 := Int.emod_lt_of_pos (IntKind.u64.wrap m) (show (0 : Int) < ((64 - At : Nat) : Int) by omega)
    have h2 := Int.emod_nonneg (IntKind.u64.wrap m) (show ((64 - At : Nat) : Int) ≠ 0 by omega)
    exact ⟨(wrap64 (1 + wrap64 (IntKind.u64.wrap m % ((64 - At : Nat) : Int)))).toNat, by unfold wrap64; omega, by unfold wrap64; omega, by unfold wrap64; omega⟩
  obtain ⟨M, hM, hM1, hMA⟩ := hpart3
  obtain ⟨v, hv⟩ : ∃ v, I.fieldN V 0 M = v := ⟨_, rfl⟩
  have hvM : v < 2 ^ M := by rw [← hv]; exact I.field_lt V 0 M
  obtain ⟨y, hy⟩ : ∃ y, I.withN N At M v = y := ⟨_, rfl⟩
  have hy64 : y < 18446744073709551616 := by rw [← hy]; exact I.with_lt hN hvM hMA
  have HA := Lib.hid hAt
  have HMM := Lib.hid hM
  have HV1 := Lib.hid (And.intro ((I.fld_val (N := V) (A := 0) (M := M) (by omega) hM1 (by omega)).trans (congrArg _ hv)) (I.fld_ok (a := ((0 : Nat) : Int)) (m := M) (by omega) (by omega) (by omega) (by omega)))
  have HV2 := Lib.hid (And.intro ((I.wth_val (N := N) hAt64 hM1 hMA hvM).1.trans (congrArg _ hy)) (I.wth_val (N := N) hAt64 hM1 hMA hvM).2)
  have HV3 := Lib.hid (And.intro ((I.fld_val (N := y) hAt64 hM1 hMA).trans (congrArg _ (show I.fieldN y At M = v by rw [← hy]; exact I.field_with hvM))) (I.fld_ok (a := At) (m := M) (by omega) (by omega) (by omega) (by omega)))
  have HY := Lib.hid hy
  clear hAt hw hM hv hy
  obtain ⟨n, hn⟩ : ∃ n, I.fieldN N 0 B = n := ⟨_, rfl⟩
  have hnB : n < 2 ^ B := by rw [← hn]; exact I.field_lt N 0 B
  obtain ⟨x, hx, hxB, hxn⟩ := I.trn_trn hnB hB1 hB2 j (-j)
  obtain ⟨x', hx', _, hxk⟩ := I.trn_trn hnB hB1 hB2 j kk
  have hxx : x = x' := by omega
  subst hxx
  have hjj : j + -j = 0 := by omega
  rw [hjj, I.trn_back hnB hB1 hB2] at hxn
  obtain ⟨T, hT⟩ : ∃ T, I.trnV n B (j + kk) = T := ⟨_, rfl⟩
  rw [hT] at hxk
  have HH := Lib.hid hB
  have HF := Lib.hid (And.intro ((I.fld_val (N := N) (A := 0) (M := B) (by omega) hB1 (by omega)).trans (congrArg _ hn)) (I.fld_ok (a := ((0 : Nat) : Int)) (m := B) (by omega) (by omega) (by omega) (by omega)))
  have H1 := Lib.hid (And.intro hx (I.trn_ok hnB hB1 hB2))
  have H2 := Lib.hid (And.intro hxn (I.trn_ok hxB hB1 hB2))
  have H3 := Lib.hid hxk
  have H4 := Lib.hid hT
  clear hB hn hx hx' hxn hxk hT hjj
  go_enter Try.func10, Try.ntmps10
  go_wp2_with fail
  rw [HH.out]
  refine (Field_any N 0 B hN _).mono ?_
  rintro e w' ⟨rfl, n1, rfl⟩
  rw [show I.fldV N 0 B = n from HF.out.1, show I.errV (I.fldOk 0 B) = 0 from HF.out.2]
  go_wp2_with fail
  refine (Turn_any n B j _).mono ?_
  rintro e w' ⟨rfl, n2, rfl⟩
  rw [H1.out.1, H1.out.2]
  go_wp2_with fail
  refine (Turn_any x B (-j) _).mono ?_
  rintro e w' ⟨rfl, n3, rfl⟩
  rw [H2.out.1, H2.out.2]
  go_wp2_with fail
  refine (Turn_any x B kk _).mono ?_
  rintro e w' ⟨rfl, n4, rfl⟩
  rw [H3.out, H2.out.2]
  go_wp2_with fail
  refine (Turn_any n B (j + kk) _).mono ?_
  rintro e w' ⟨rfl, n5, rfl⟩
  rw [H4.out, H1.out.2]
  go_wp2_with fail
  rw [HMM.out]
  refine (Field_any V 0 M hV _).mono ?_
  rintro e w' ⟨rfl, n6, rfl⟩
  rw [show I.fldV V 0 M = v from HV1.out.1, show I.errV (I.fldOk 0 M) = 0 from HV1.out.2]
  go_wp2_with fail
  rw [HA.out]
  refine (With_any N At M v hN _).mono ?_
  rintro e w' ⟨rfl, n7, rfl⟩
  rw [HV2.out.1, HV2.out.2]
  go_wp2_with fail
  refine (Field_any y At M hy64 _).mono ?_
  rintro e w' ⟨rfl, n8, rfl⟩
  rw [HV3.out.1, HV3.out.2]
  go_wp2_with fail
  have hcell0 : (w.alloc (.cells #[.int .u64 N, .int .u64 V, .int .i64 a, .int .i64 m, .int .i64 k] 44)).cell? ⟨w.heap.size, 0, none⟩ = some (.int .u64 N) :=
    cell_of_row _ w.heap.size 0 _ 44 (0, 0) (heap_alloc_new w _)
  go_loopw [22] (fun i wr => ∃ q : Nat, q ≤ 64 ∧ i = .int .i64 q ∧ wr.cell? ⟨w.heap.size, 0, none⟩ = some (.int .u64 N) ∧ Below w.heap.size w wr) (fun i _ => 64 - (intOf i).toNat)
  case atStart => exact ⟨0, by omega, rfl, hcell0, I.below_drewN HBA.out _⟩
  case round =>
    obtain ⟨q, hq, rfl, hcell, hbel⟩ := hrel
    clear hcell0
    by_cases hlt : q < 64
    · have HP1 := Lib.hid (And.intro (I.fld_val (N := N) (A := q) (M := 1) hlt (by omega) (by omega)) (I.fld_ok (a := q) (m := ((1 : Nat) : Int)) (by omega) (by omega) (by omega) (by omega)))
      have HP2 := Lib.hid (I.fld_val (N := y) (A := q) (M := 1) hlt (by omega) (by omega))
      by_cases hin : At ≤ q ∧ q < At + M
      · have h1 : ¬ (q : Int) < At := by omega
        have h2 : ¬ (At : Int) + M ≤ q := by omega
        clear hin
        go_wp2_with fail
        refine (Field_any N q 1 hN _).mono ?_
        rintro e w' ⟨rfl, n9, rfl⟩
        rw [show I.fldV N q 1 = _ from HP1.out.1, show I.errV (I.fldOk q 1) = 0 from HP1.out.2]
        go_wp2_with fail
        refine (Field_any y q 1 hy64 _).mono ?_
        rintro e w' ⟨rfl, n10, rfl⟩
        rw [show I.fldV y q 1 = _ from HP2.out, show I.errV (I.fldOk q 1) = 0 from HP1.out.2]
        go_wp2_with fail
        go_roundw
        case rel => exact ⟨q + 1, by omega, by go_num, hcell, I.below_drewN hbel _⟩
        case measure => simp [intOf]; omega
      · have HQ : Hid (I.fieldN y q 1 = I.fieldN N q 1) := Lib.hid (by rw [← HY.out]; exact I.field_out hvM hin)
        have hout : (q : Int) < At ∨ (¬ (q : Int) < At ∧ (At : Int) + M ≤ q) := by omega
        clear hin
        rcases hout with h1 | ⟨h1, h2⟩
        all_goals
          go_wp2_with fail
          refine (Field_any N q 1 hN _).mono ?_
          rintro e w' ⟨rfl, n9, rfl⟩
          rw [show I.fldV N q 1 = _ from HP1.out.1, show I.errV (I.fldOk q 1) = 0 from HP1.out.2]
          go_wp2_with fail
          refine (Field_any y q 1 hy64 _).mono ?_
          rintro e w' ⟨rfl, n10, rfl⟩
          rw [show I.fldV y q 1 = _ from HP2.out, show I.errV (I.fldOk q 1) = 0 from HP1.out.2, HQ.out]
          go_wp2_with fail
          go_roundw
          case rel => exact ⟨q + 1, by omega, by go_num, hcell, I.below_drewN hbel _⟩
          case measure => simp [intOf]; omega
    · obtain rfl : q = 64 := by omega
      go_wp2_with fail
      refine (awake_any _).mono ?_
      rintro e w5 ⟨rfl, hb5⟩
      go_wp2_with fail
      go_ret
      exact ⟨rfl, hbel.trans (hb5.mono hbel.size)⟩
end Go.Proofs.Ythopdpgjfmpgkaa
