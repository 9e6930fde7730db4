/- The contracts of the law's own times and cube. -/
import Derived.Test.YtgpgnfdbjljljaaDoorShaRConst
namespace Go.Proofs.YtgpgnfdbjljljaaDoor
open Go.RowKit
namespace S
def lLo (a b : Nat) : Nat := a * b % 18446744073709551616
def cHi (m : Nat) : Nat := (tHi (lLo m m) m + tHi m m * m) % 18446744073709551616
theorem cHi_eq (m : Nat) : cHi m = (tHi (lLo m m) m + tHi m m * m) % 18446744073709551616 := by unfold cHi; rfl
theorem lLo_lt (a b : Nat) : lLo a b < 18446744073709551616 := Nat.mod_lt _ (by decide)
theorem info_lwide : (Tryd.prog.info? 54).map (·.size) = some 2 := by kernel_rfl
end S
set_option maxHeartbeats 1000000 in
theorem ltimes_any (a b : Nat) (ha : a < 18446744073709551616) (hb : b < 18446744073709551616) (w : World) :
    Calls Tryd.prog 30 #[.int .u64 a, .int .u64 b] w fun e w' => e = .returned (.agg #[.int .u64 (S.tHi a b : Nat), .int .u64 (S.lLo a b : Nat)]) ∧ Below w.heap.size w w' := by
  have e1 := Lib.hid (S.and_half ha)
  have e2 := Lib.hid (S.and_half hb)
  have e3 := Lib.hid (show IntKind.u64.wrap ((a : Int) / 4294967296 * ((b : Int) / 4294967296)) = (S.tP a b : Nat) by rw [S.wrap_u64']; simp [S.tP])
  have e4 := Lib.hid (show IntKind.u64.wrap ((a : Int) / 4294967296 * ((b % 4294967296 : Nat) : Int)) = (S.tQ a b : Nat) by rw [S.wrap_u64']; simp [S.tQ])
  have e5 := Lib.hid (show IntKind.u64.wrap (((a % 4294967296 : Nat) : Int) * ((b : Int) / 4294967296)) = (S.tR a b : Nat) by rw [S.wrap_u64']; simp [S.tR])
  have e6 := Lib.hid (show IntKind.u64.wrap (((a % 4294967296 : Nat) : Int) * ((b % 4294967296 : Nat) : Int)) = (S.tS a b : Nat) by rw [S.wrap_u64']; simp [S.tS])
  have bQ : S.tQ a b < 18446744073709551616 := Nat.mod_lt _ (by decide)
  have bR : S.tR a b < 18446744073709551616 := Nat.mod_lt _ (by decide)
  have bS : S.tS a b < 18446744073709551616 := Nat.mod_lt _ (by decide)
  have e7 := Lib.hid (S.and_half bQ)
  have e8 := Lib.hid (S.and_half bR)
  have HH := Lib.hid (show S.tHi a b = (S.tP a b + S.tQ a b / 4294967296 + S.tR a b / 4294967296 + S.tM (S.tQ a b) (S.tR a b) (S.tS a b) / 4294967296) % 18446744073709551616 from rfl)
  have HL := Lib.hid (show IntKind.u64.wrap ((a : Int) * (b : Int)) = (S.lLo a b : Nat) by rw [S.wrap_u64']; simp [S.lLo])
  generalize S.tP a b = p at e3 HH
  generalize S.tQ a b = q at e4 e7 HH bQ
  generalize S.tR a b = r at e5 e8 HH bR
  generalize S.tS a b = s at e6 HH bS
  have HM := Lib.hid (show IntKind.u64.wrap (IntKind.u64.wrap ((s : Int) / 4294967296 + ((q % 4294967296 : Nat) : Int)) + ((r % 4294967296 : Nat) : Int)) = (S.tM q r s : Nat) by simp only [S.wrap_u64', S.tM]; omega)
  generalize S.tM q r s = m at HM HH
  go_enter Tryd.func30, Tryd.ntmps30
  go_wp2_with fail
  rw [e1.out, e2.out, e3.out, e4.out, e5.out, e6.out, e7.out, e8.out, HM.out, HL.out]
  have eH := Lib.hid (show IntKind.u64.wrap (IntKind.u64.wrap (IntKind.u64.wrap ((p : Int) + (q : Int) / 4294967296) + (r : Int) / 4294967296) + (m : Int) / 4294967296) = (S.tHi a b : Nat) by rw [HH.out]; simp only [S.wrap_u64']; omega)
  rw [eH.out]
  exact bodyPost_ret (v := .agg #[.int .u64 (S.tHi a b : Nat), .int .u64 (S.lLo a b : Nat)]) (by simp [results, Tryd.results30, go_sem]) rfl ⟨rfl, (Below.refl _ _).alloc (Nat.le_refl _) _⟩
set_option maxHeartbeats 1000000 in
theorem cube_any (m : Nat) (hm : m < 18446744073709551616) (w : World) :
    Calls Tryd.prog 28 #[.int .u64 m] w fun e w' => e = .returned (.agg #[.int .u64 (S.cHi m : Nat), .int .u64 (S.lLo (S.lLo m m) m : Nat)]) ∧ Below w.heap.size w w' := by
  have T1 := fun w => ltimes_any m m hm hm w
  obtain ⟨q, hq⟩ : ∃ q : Nat, IntKind.u64.wrap (((S.tHi m m : Nat) : Int) * m) = q ∧ q = S.tHi m m * m % 18446744073709551616 := by
    refine ⟨_, ?_, rfl⟩
    generalize S.tHi m m = y
    rw [S.wrap_u64', Int.natCast_emod, Int.natCast_mul]
    rfl
  have HX : IntKind.u64.wrap ((S.tHi (S.lLo m m) m : Nat) + (q : Int)) = (S.cHi m : Nat) := by
    rw [S.cHi_eq m, hq.2]
    generalize S.tHi (S.lLo m m) m = x
    generalize S.tHi m m * m = y
    simp only [S.wrap_u64']
    omega
  replace hq := hq.1
  have h2 := S.lLo_lt m m
  have T2 := fun w => ltimes_any (S.lLo m m) m h2 hm w
  generalize S.cHi m = ph at HX ⊢
  generalize S.tHi (S.lLo m m) m = xh at HX T2
  generalize S.lLo (S.lLo m m) m = xl at T2 ⊢
  generalize S.tHi m m = hi at T1 hq
  generalize S.lLo m m = lo at T1 T2 h2
  replace T1 := Lib.hid T1
  replace T2 := Lib.hid T2
  go_enter Tryd.func28, Tryd.ntmps28
  go_wp2_with fail
  refine (T1.out _).mono ?_
  rintro e w1 ⟨rfl, hb1⟩
  have hr0 : S.Row w1 w.heap.size 54 [.int .u64 0, .int .u64 0] := (S.Row.made w _ _ rfl rfl).below hb1 (by simp)
  have hB0 : Below w.heap.size w w1 := ((Below.refl _ _).alloc (Nat.le_refl _) _).trans (hb1.mono (by simp))
  clear hb1
  go_wp2_with fail
  refine (T2.out _).mono ?_
  rintro e w2 ⟨rfl, hb2⟩
  have hr2 := (hr0.alloc (.cells #[.int .u64 hi, .int .u64 lo] 54)).below hb2 (by have := hr0.lt; simp; omega)
  have hs2 : S.Row w2 w1.heap.size 54 [.int .u64 hi, .int .u64 lo] := (S.Row.made w1 _ _ rfl rfl).below hb2 (by simp)
  have hB2 := (hB0.alloc hB0.size (.cells #[.int .u64 hi, .int .u64 lo] 54)).trans (hb2.mono (by have := hB0.size; simp; omega))
  have hlt := hs2.lt
  have c0 := hs2.cell (j := 0) (v := .int .u64 hi) rfl
  clear hb2 hs2 hr0 hB0
  generalize w1.heap.size = g1 at c0 hlt ⊢
  have hlw := hr2.lt
  have d0 := hr2.cell (j := 0) (v := .int .u64 0) rfl
  have d1 := hr2.cell (j := 1) (v := .int .u64 0) rfl
  have f0 := hr2.frozen 0
  have f1 := hr2.frozen 1
  go_wp2_with fail
  have hr9 := ((hr2.set 0 (.int .u64 ph)).set 1 (.int .u64 xl)).alloc (.cells #[.int .u64 xh, .int .u64 xl] 54)
  exact bodyPost_ret (v := .agg #[.int .u64 ph, .int .u64 xl]) (results_cell_row Tryd.results28 _ _ w.heap.size _ _ _ _ rfl hr9 Tryd.underlying54 rfl S.info_lwide) rfl ⟨rfl, S.below_two hB2 _ _ _⟩
end Go.Proofs.YtgpgnfdbjljljaaDoor
