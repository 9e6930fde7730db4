/- The contracts of the reference's times, less, power and root. -/
import Derived.Test.YtgpgnfdbjljljaaDoorShaRPrimes
import Derived.Test.YtgpgnfdbjljljaaDoorShaRBlock
namespace Go.Proofs.YtgpgnfdbjljljaaDoor
open Go.RowKit
namespace S
theorem wrap_u64' (n : Int) : IntKind.u64.wrap n = n % 18446744073709551616 := by simp [IntKind.wrap, IntKind.bits, IntKind.signed]
theorem and_half {x : Nat} (h : x < 18446744073709551616) : bits .and .u64 (x : Int) 4294967295 = ((x % 4294967296 : Nat) : Int) := by
  have := u64_and_nat x 4294967295 h (by decide)
  rw [show (4294967295 : Nat) = 2 ^ 32 - 1 by decide, Nat.and_two_pow_sub_one_eq_mod] at this
  exact this
def tP (a b : Nat) : Nat := (a / 4294967296) * (b / 4294967296) % 18446744073709551616
def tQ (a b : Nat) : Nat := (a / 4294967296) * (b % 4294967296) % 18446744073709551616
def tR (a b : Nat) : Nat := (a % 4294967296) * (b / 4294967296) % 18446744073709551616
def tS (a b : Nat) : Nat := (a % 4294967296) * (b % 4294967296) % 18446744073709551616
def tM (q r s : Nat) : Nat := (s / 4294967296 + q % 4294967296 + r % 4294967296) % 18446744073709551616
/-- The higher and the lower half of a product, as the reference counts them. -/
def tHi (a b : Nat) : Nat := (tP a b + tQ a b / 4294967296 + tR a b / 4294967296 + tM (tQ a b) (tR a b) (tS a b) / 4294967296) % 18446744073709551616
def tLo (a b : Nat) : Nat := (tM (tQ a b) (tR a b) (tS a b) * 4294967296 + tS a b % 4294967296) % 18446744073709551616
def pHi (m : Nat) (t : Bool) : Nat := if t then (tHi (tLo m m) m + tHi m m * m) % 18446744073709551616 else tHi m m
def pLo (m : Nat) (t : Bool) : Nat := if t then tLo (tLo m m) m else tLo m m
theorem lt_bool (A B C : Prop) [Decidable A] [Decidable B] [Decidable C] : (!decide A && (!decide B || !decide C)) = !decide (A ∨ B ∧ C) := by
  by_cases hA : A <;> by_cases hB : B <;> by_cases hC : C <;> simp [hA, hB, hC]
theorem pHi_no (m : Nat) : pHi m false = tHi m m := by simp [pHi]
theorem pLo_no (m : Nat) : pLo m false = tLo m m := by simp [pLo]
theorem pHi_yes (m : Nat) : pHi m true = (tHi (tLo m m) m + tHi m m * m) % 18446744073709551616 := by simp [pHi]
theorem pLo_yes (m : Nat) : pLo m true = tLo (tLo m m) m := by simp [pLo]
theorem tHi_lt (a b : Nat) : tHi a b < 18446744073709551616 := Nat.mod_lt _ (by decide)
theorem tLo_lt (a b : Nat) : tLo a b < 18446744073709551616 := Nat.mod_lt _ (by decide)
theorem wideV {x y : Int} {a b : Nat} (h1 : x = a) (h2 : y = b) : (#[.int .u64 x, .int .u64 y] : Array Value) = #[.int .u64 a, .int .u64 b] := by rw [h1, h2]
def wantHi (p : Nat) (t : Bool) : Nat := if t then p * 4294967296 % 18446744073709551616 else p
theorem wantHi_yes (p : Nat) : wantHi p true = p * 4294967296 % 18446744073709551616 := by simp [wantHi]
/-- The root after the first j bits. -/
def rootAt (p : Nat) (t : Bool) : Nat → Nat
  | 0 => 0
  | j + 1 => if wantHi p t < pHi (rootAt p t j + 2 ^ (40 - j)) t ∨ wantHi p t = pHi (rootAt p t j + 2 ^ (40 - j)) t ∧ 0 < pLo (rootAt p t j + 2 ^ (40 - j)) t then rootAt p t j else rootAt p t j + 2 ^ (40 - j)
def rootN (p : Nat) (t : Bool) : Nat := rootAt p t 41
theorem rootAt_le (p : Nat) (t : Bool) : ∀ j, j ≤ 41 → rootAt p t j + 2 ^ (41 - j) ≤ 2199023255552
  | 0, _ => by simp [rootAt]
  | j + 1, h => by
    have := rootAt_le p t j (by omega)
    have e : 2 ^ (41 - j) = 2 ^ (40 - j) + 2 ^ (40 - j) := by rw [show 41 - j = 40 - j + 1 by omega, Nat.pow_succ]; omega
    have e2 : 41 - (j + 1) = 40 - j := by omega
    rw [e] at this
    have := Nat.two_pow_pos (40 - j)
    rw [rootAt, e2]
    split <;> omega
theorem roots_K : (pr 312).map (fun p => rootN p true % 4294967296) = K := by decide +kernel
theorem roots_start : ((pr 312).take 8).map (fun p => rootN p false % 4294967296) = start.list := by decide +kernel
theorem info_wide : (Tryd.prog.info? 106).map (·.size) = some 2 := by kernel_rfl
end S
set_option maxHeartbeats 1000000 in
theorem times_any (a b : Nat) (ha : a < 18446744073709551616) (hb : b < 18446744073709551616) (w : World) :
    Calls Tryd.prog 82 #[.int .u64 a, .int .u64 b] w fun e w' => e = .returned (.agg #[.int .u64 (S.tHi a b : Nat), .int .u64 (S.tLo a b : Nat)]) ∧ Below w.heap.size w w' := by
  have e1 := Lib.hid (S.and_half ha)
  have e2 := Lib.hid (S.and_half hb)
  have e3 := Lib.hid (show IntKind.u64.wrap ((a : Int) / 4294967296 * ((b : Int) / 4294967296)) = (S.tP a b : Nat) by rw [S.wrap_u64']; simp [S.tP])
  have e4 := Lib.hid (show IntKind.u64.wrap ((a : Int) / 4294967296 * ((b % 4294967296 : Nat) : Int)) = (S.tQ a b : Nat) by rw [S.wrap_u64']; simp [S.tQ])
  have e5 := Lib.hid (show IntKind.u64.wrap (((a % 4294967296 : Nat) : Int) * ((b : Int) / 4294967296)) = (S.tR a b : Nat) by rw [S.wrap_u64']; simp [S.tR])
  have e6 := Lib.hid (show IntKind.u64.wrap (((a % 4294967296 : Nat) : Int) * ((b % 4294967296 : Nat) : Int)) = (S.tS a b : Nat) by rw [S.wrap_u64']; simp [S.tS])
  have bQ : S.tQ a b < 18446744073709551616 := Nat.mod_lt _ (by decide)
  have bR : S.tR a b < 18446744073709551616 := Nat.mod_lt _ (by decide)
  have bS : S.tS a b < 18446744073709551616 := Nat.mod_lt _ (by decide)
  have e7 := Lib.hid (S.and_half bQ)
  have e8 := Lib.hid (S.and_half bR)
  have e9 := Lib.hid (S.and_half bS)
  have HH := Lib.hid (show S.tHi a b = (S.tP a b + S.tQ a b / 4294967296 + S.tR a b / 4294967296 + S.tM (S.tQ a b) (S.tR a b) (S.tS a b) / 4294967296) % 18446744073709551616 from rfl)
  have HL := Lib.hid (show S.tLo a b = (S.tM (S.tQ a b) (S.tR a b) (S.tS a b) * 4294967296 + S.tS a b % 4294967296) % 18446744073709551616 from rfl)
  generalize S.tP a b = p at e3 HH
  generalize S.tQ a b = q at e4 e7 HH HL bQ
  generalize S.tR a b = r at e5 e8 HH HL bR
  generalize S.tS a b = s at e6 e9 HH HL bS
  have HM := Lib.hid (show IntKind.u64.wrap (IntKind.u64.wrap ((s : Int) / 4294967296 + ((q % 4294967296 : Nat) : Int)) + ((r % 4294967296 : Nat) : Int)) = (S.tM q r s : Nat) by simp only [S.wrap_u64', S.tM]; omega)
  generalize S.tM q r s = m at HM HH HL
  go_enter Tryd.func82, Tryd.ntmps82
  go_wp2_with fail
  rw [e1.out, e2.out, e3.out, e4.out, e5.out, e6.out, e7.out, e8.out, e9.out, HM.out]
  have eH := Lib.hid (show IntKind.u64.wrap (IntKind.u64.wrap (IntKind.u64.wrap ((p : Int) + (q : Int) / 4294967296) + (r : Int) / 4294967296) + (m : Int) / 4294967296) = (S.tHi a b : Nat) by rw [HH.out]; simp only [S.wrap_u64']; omega)
  have eL := Lib.hid (show IntKind.u64.wrap (IntKind.u64.wrap ((m : Int) * 4294967296) + ((s % 4294967296 : Nat) : Int)) = (S.tLo a b : Nat) by rw [HL.out]; simp only [S.wrap_u64']; omega)
  rw [eH.out, eL.out]
  exact bodyPost_ret (v := .agg #[.int .u64 (S.tHi a b : Nat), .int .u64 (S.tLo a b : Nat)]) (by simp [results, Tryd.results82, go_sem]) rfl ⟨rfl, (Below.refl _ _).alloc (Nat.le_refl _) _⟩
set_option maxHeartbeats 1000000 in
theorem less_any (a b c d : Nat) (w : World) :
    Calls Tryd.prog 73 #[.agg #[.int .u64 a, .int .u64 b], .agg #[.int .u64 c, .int .u64 d]] w fun e w' => e = .returned (.bool (decide (a < c ∨ a = c ∧ b < d))) ∧ Below w.heap.size w w' := by
  by_cases h1 : a < c
  · go_enter Tryd.func73, Tryd.ntmps73
    go_wp2_with fail
    go_ret
    exact ⟨by simp [h1], ((Below.refl _ _).alloc (Nat.le_refl _) _).alloc (by simp) _⟩
  · by_cases h2 : a = c
    · subst h2
      have hd : decide (a < a ∨ a = a ∧ b < d) = decide (b < d) := by simp
      rw [hd]
      clear h1 hd
      go_enter Tryd.func73, Tryd.ntmps73
      go_wp2_with fail
      go_ret
      exact ⟨rfl, ((Below.refl _ _).alloc (Nat.le_refl _) _).alloc (by simp) _⟩
    · have h3 : c < a := by omega
      have hd : decide (a < c ∨ a = c ∧ b < d) = false := by simp [h1, h2]
      have hz : ((a : Int) == c) = false := by rw [beq_eq_false_iff_ne]; omega
      rw [hd]
      clear h1 h2 hd
      go_enter Tryd.func73, Tryd.ntmps73
      go_wp2_with fail
      go_ret
      exact ⟨by congr 2; simp; omega, ((Below.refl _ _).alloc (Nat.le_refl _) _).alloc (by simp) _⟩
theorem S.below_two {w w' : World} (h : Below w.heap.size w w') (u v : Value) (o : Obj) : Below w.heap.size w (((w'.setCell ⟨w.heap.size, 0, none⟩ u).setCell ⟨w.heap.size, 1, none⟩ v).alloc o) := by
  have h2 : Below w.heap.size w ((w'.setCell ⟨w.heap.size, 0, none⟩ u).setCell ⟨w.heap.size, 1, none⟩ v) := (h.setCell (by simp) u).setCell (by simp) v
  exact h2.alloc h2.size o
set_option maxHeartbeats 1000000 in
theorem power_any (m : Nat) (hm : m < 18446744073709551616) (t : Bool) (w : World) :
    Calls Tryd.prog 74 #[.int .u64 m, .bool t] w fun e w' => e = .returned (.agg #[.int .u64 (S.pHi m t : Nat), .int .u64 (S.pLo m t : Nat)]) ∧ Below w.heap.size w w' := by
  have T1 := fun w => times_any m m hm hm w
  cases t with
  | false =>
    have E1 : S.pHi m false = S.tHi m m := S.pHi_no m
    have E2 : S.pLo m false = S.tLo m m := S.pLo_no m
    rw [E1, E2]
    clear E1 E2
    generalize S.tHi m m = hi at T1 ⊢
    generalize S.tLo m m = lo at T1 ⊢
    replace T1 := Lib.hid T1
    go_enter Tryd.func74, Tryd.ntmps74
    go_wp2_with fail
    refine (T1.out _).mono ?_
    rintro e w1 ⟨rfl, hb1⟩
    have hr0 : S.Row w1 w.heap.size 106 [.int .u64 0, .int .u64 0] := (S.Row.made w _ _ rfl rfl).below hb1 (by simp)
    have hB0 : Below w.heap.size w w1 := ((Below.refl _ _).alloc (Nat.le_refl _) _).trans (hb1.mono (by simp))
    clear hb1
    go_wp2_with (refine S.wpList_store_but rfl 106 (.tmp 4) (.tmp 12) rfl w.heap.size [.int .u64 hi, .int .u64 lo] rfl rfl _ _ (hr0.alloc _) S.info_wide rfl (by simp [Value.oneCell']) ?_; intro w9 hr9 hbut9)
    exact bodyPost_ret (v := .agg #[.int .u64 hi, .int .u64 lo]) (results_cell_row Tryd.results74 _ _ w.heap.size _ _ _ _ rfl hr9 Tryd.underlying106 rfl S.info_wide) rfl ⟨rfl, (hB0.alloc hB0.size _).trans (hbut9.below (Nat.le_refl _) (by have := hB0.size; simp; omega))⟩
  | true =>
    obtain ⟨q, hq⟩ : ∃ q : Nat, IntKind.u64.wrap (((S.tHi m m : Nat) : Int) * m) = q ∧ q = S.tHi m m * m % 18446744073709551616 := by
      refine ⟨_, ?_, rfl⟩
      generalize S.tHi m m = y
      rw [S.wrap_u64', Int.natCast_emod, Int.natCast_mul]
      rfl
    have HX : IntKind.u64.wrap ((S.tHi (S.tLo m m) m : Nat) + (q : Int)) = (S.pHi m true : Nat) := by
      rw [S.pHi_yes m, hq.2]
      generalize S.tHi (S.tLo m m) m = x
      generalize S.tHi m m * m = y
      simp only [S.wrap_u64']
      omega
    replace hq := hq.1
    have h2 := S.tLo_lt m m
    have T2 := fun w => times_any (S.tLo m m) m h2 hm w
    have E2 : S.pLo m true = S.tLo (S.tLo m m) m := S.pLo_yes m
    rw [E2]
    clear E2
    generalize S.pHi m true = ph at HX ⊢
    generalize S.tHi (S.tLo m m) m = xh at HX T2 ⊢
    generalize S.tLo (S.tLo m m) m = xl at T2 ⊢
    generalize S.tHi m m = hi at T1 hq
    generalize S.tLo m m = lo at T1 T2 h2
    replace T1 := Lib.hid T1
    replace T2 := Lib.hid T2
    go_enter Tryd.func74, Tryd.ntmps74
    go_wp2_with fail
    refine (T1.out _).mono ?_
    rintro e w1 ⟨rfl, hb1⟩
    have hr0 : S.Row w1 w.heap.size 106 [.int .u64 0, .int .u64 0] := (S.Row.made w _ _ rfl rfl).below hb1 (by simp)
    have hB0 : Below w.heap.size w w1 := ((Below.refl _ _).alloc (Nat.le_refl _) _).trans (hb1.mono (by simp))
    clear hb1
    go_wp2_with fail
    refine (T2.out _).mono ?_
    rintro e w2 ⟨rfl, hb2⟩
    have hr2 := (hr0.alloc (.cells #[.int .u64 hi, .int .u64 lo] 106)).below hb2 (by have := hr0.lt; simp; omega)
    have hs2 : S.Row w2 w1.heap.size 106 [.int .u64 hi, .int .u64 lo] := (S.Row.made w1 _ _ rfl rfl).below hb2 (by simp)
    have hB2 := (hB0.alloc hB0.size (.cells #[.int .u64 hi, .int .u64 lo] 106)).trans (hb2.mono (by have := hB0.size; simp; omega))
    have hlt := hs2.lt
    have c0 := hs2.cell (j := 0) (v := .int .u64 hi) rfl
    clear hb2 hs2 hr0 hB0
    generalize w1.heap.size = g1 at c0 hlt ⊢
    have hlw := hr2.lt
    have d0 := hr2.cell (j := 0) (v := .int .u64 0) rfl
    have d1 := hr2.cell (j := 1) (v := .int .u64 0) rfl
    have f0 := hr2.frozen 0
    have f1 := hr2.frozen 1
    go_wp2_with fail
    have hr9 := ((hr2.set 0 (.int .u64 ph)).set 1 (.int .u64 xl)).alloc (.cells #[.int .u64 ph, .int .u64 xl] 106)
    exact bodyPost_ret (v := .agg #[.int .u64 ph, .int .u64 xl]) (results_cell_row Tryd.results74 _ _ w.heap.size _ _ _ _ rfl hr9 Tryd.underlying106 rfl S.info_wide) rfl ⟨rfl, S.below_two hB2 _ _ _⟩
set_option maxHeartbeats 1000000 in
theorem root_any (p : Nat) (hp : p < 4294967296) (t : Bool) (w : World) :
    Calls Tryd.prog 67 #[.int .u64 p, .bool t] w fun e w' => e = .returned (.int .u64 (S.rootN p t : Nat)) ∧ Below w.heap.size w w' := by
  go_enter Tryd.func67, Tryd.ntmps67
  cases t with
  | false =>
    go_wp2_with fail
    have hrow0 : S.Row _ w.heap.size 106 [.int .u64 (S.wantHi p false : Nat), .int .u64 0] := S.Row.made w _ _ rfl rfl
    have hb0 := (Below.refl w.heap.size w).alloc (Nat.le_refl _) (.cells #[.int .u64 (S.wantHi p false : Nat), .int .u64 0] 106)
    go_loopw [6, 7] (fun m b wr => ∃ j : Nat, j ≤ 41 ∧ m = .int .u64 (S.rootAt p false j : Nat) ∧ b = .int .i64 (40 - (j : Int)) ∧ S.Row wr w.heap.size 106 [.int .u64 (S.wantHi p false : Nat), .int .u64 0] ∧ Below w.heap.size w wr) (fun _ b _ => (intOf b + 1).toNat)
    case atStart => exact ⟨0, by omega, rfl, rfl, hrow0, hb0⟩
    case round =>
      clear hrow0 hb0
      obtain ⟨j, hj, rfl, rfl, hrow, hbel⟩ := hrel
      by_cases hlt : j < 41
      · obtain ⟨b, hb⟩ : ∃ b : Nat, b = 40 - j := ⟨_, rfl⟩
        rw [show (40 : Int) - (j : Int) = (b : Int) by omega]
        have hb40 : b ≤ 40 := by omega
        have hle := S.rootAt_le p false (j + 1) (by omega)
        have hle0 := S.rootAt_le p false j hj
        have hpb := Nat.two_pow_pos b
        have hpe : 2 ^ (41 - j) = 2 ^ b + 2 ^ b := by rw [show 41 - j = b + 1 by omega, Nat.pow_succ]; omega
        rw [hpe] at hle0
        have HN := Lib.hid (show S.rootAt p false (j + 1) = if S.wantHi p false < S.pHi (S.rootAt p false j + 2 ^ b) false ∨ S.wantHi p false = S.pHi (S.rootAt p false j + 2 ^ b) false ∧ 0 < S.pLo (S.rootAt p false j + 2 ^ b) false then S.rootAt p false j else S.rootAt p false j + 2 ^ b by rw [hb]; rfl)
        generalize S.rootAt p false j = m0 at hle0 HN ⊢
        obtain ⟨pb, hpb0⟩ : ∃ pb : Nat, pb = 2 ^ b := ⟨_, rfl⟩
        have hpc : (1 : Int) * 2 ^ b = (pb : Int) := by rw [hpb0, Int.one_mul]; simp
        have hpd : (2 : Int) ^ b = (pb : Int) := by rw [hpb0]; simp
        rw [← hpb0] at hle0 HN hpb
        obtain ⟨nx, hnx0⟩ : ∃ nx, nx = m0 + pb := ⟨_, rfl⟩
        have hnx : nx < 18446744073709551616 := by omega
        rw [← hnx0] at HN
        have hsum : (m0 : Int) + (pb : Int) = (nx : Int) := by omega
        have HW := Lib.hid (show IntKind.u64.wrap ((m0 : Int) + IntKind.u64.wrap ((2 : Int) ^ b)) = (nx : Int) by rw [hpd, S.wrap_u64', S.wrap_u64']; omega)
        have HJ := Lib.hid hlt
        have HBJ := Lib.hid hb
        clear hpe hle hpb hle0 hsum hpd hpc hb hj hlt hnx0 hpb0
        go_wp2_with fail
        rw [HW.out]
        refine wp_region_noPanic ?_
        refine wp_region_held_drew (S := fun W => S.Row W w.heap.size 106 [.int .u64 (S.wantHi p false : Nat), .int .u64 0]) (by kernel_rfl) hrow (fun hHeld => ?_)
        refine wpAnyH_take (i := 0) (oi := ({ dst := some 24, op := Op.load 106 (Operand.tmp 5), type := 106, pos := "ref.go:57", after := #[], guard := none } : Oper)) (v := .agg #[.int .u64 (S.wantHi p false : Nat), .int .u64 0]) rfl (by kernel_rfl) (by kernel_rfl) (by kernel_rfl) (fun _ _ _ h => h) (Or.inl ⟨by rfl, ?_⟩) (by assumption) ?_
        · exact fun W hSw => S.run_load_part W _ _ _ (.tmp 5) rfl w.heap.size 0 rfl #[.int .u64 (S.wantHi p false : Nat), .int .u64 0] _ (fun j v hj => by rw [Nat.zero_add]; exact S.Row.cell hSw hj) Tryd.underlying106 rfl S.info_wide
        (try simp only [Act.put, List.setIfInBounds_toArray, List.set_cons_zero, List.set_cons_succ])
        refine wpAnyH_take (i := 1) (oi := ({ dst := some 25, op := Op.move (Operand.tmp 8), type := 48, pos := "ref.go:57", after := #[], guard := none } : Oper)) (v := ?_) rfl (by kernel_rfl) (by kernel_rfl) (by kernel_rfl) (fun _ _ _ h => h) (Or.inl ⟨by rfl, ?_⟩) (by assumption) ?_
        rotate_left 1
        · intro w hSw
          (try dsimp only at hSw)
          go_simp
          (try with_reducible rfl)
        (try simp only [Act.put, List.setIfInBounds_toArray, List.set_cons_zero, List.set_cons_succ])
        refine wpAnyH_take (i := 2) (oi := ({ dst := some 26, op := Op.move (Operand.tmp 1), type := 4, pos := "ref.go:57", after := #[], guard := none } : Oper)) (v := ?_) rfl (by kernel_rfl) (by kernel_rfl) (by kernel_rfl) (fun _ _ _ h => h) (Or.inl ⟨by rfl, ?_⟩) (by assumption) ?_
        rotate_left 1
        · intro w hSw
          (try dsimp only at hSw)
          go_simp
          (try with_reducible rfl)
        (try simp only [Act.put, List.setIfInBounds_toArray, List.set_cons_zero, List.set_cons_succ])
        refine wpAnyH_ready (rs := [3]) (by kernel_rfl) (by simp) ?_
        refine AllReadyH.cons (o := ({ dst := some 27, op := Op.call { callee := Callee.value (Operand.func 74), args := #[Operand.tmp 25, Operand.tmp 26], argTypes := #[48, 4] }, type := 106, pos := "ref.go:57", after := #[{ on := 1, ground := Ground.data }, { on := 2, ground := Ground.data }], guard := none } : Oper)) rfl (fun K hK => ?_) AllReadyH.nil
        go_simp
        refine (power_any nx hnx false _).mono ?_
        rintro e w1 ⟨rfl, hb1⟩
        have hb1 : Below wr.heap.size wr w1 := (Below.refl _ wr).drew.trans hb1
        have hrow1 : S.Row w1 w.heap.size 106 [.int .u64 (S.wantHi p false : Nat), .int .u64 0] := S.Row.below (w := wr) hrow hb1 hrow.lt
        have hb1' := hbel.trans (hb1.mono (B := wr.heap.size) hbel.size)
        refine hK.out _ _ hrow1 (fun _ => ?_)
        clear hK K
        (try simp only [Act.put, List.setIfInBounds_toArray, List.set_cons_zero, List.set_cons_succ])
        refine wpAnyH_ready (rs := [4]) (by kernel_rfl) (by simp) ?_
        refine AllReadyH.cons (o := ({ dst := some 28, op := Op.call { callee := Callee.value (Operand.func 73), args := #[Operand.tmp 24, Operand.tmp 27], argTypes := #[106, 106] }, type := 4, pos := "ref.go:57", after := #[{ on := 0, ground := Ground.data }, { on := 3, ground := Ground.data }, { on := 3, ground := Ground.chain }], guard := none } : Oper)) rfl (fun K hK => ?_) AllReadyH.nil
        go_simp
        refine (less_any (S.wantHi p false) 0 (S.pHi nx false) (S.pLo nx false) _).mono ?_
        rintro e w2 ⟨rfl, hb2⟩
        have hrow2 : S.Row w2 w.heap.size 106 [.int .u64 (S.wantHi p false : Nat), .int .u64 0] := S.Row.below (w := w1) hrow1 hb2 hrow1.lt
        have hb2' := hb1'.trans (hb2.mono (B := w1.heap.size) hb1'.size)
        refine hK.out _ _ hrow2 (fun _ => ?_)
        clear hK K hHeld
        (try simp only [Act.put, List.setIfInBounds_toArray, List.set_cons_zero, List.set_cons_succ])
        refine wpAnyH_take (i := 5) (oi := ({ dst := some 29, op := Op.unOp UnOp.not 4 (Operand.tmp 28), type := 4, pos := "ref.go:57", after := #[{ on := 4, ground := Ground.data }], guard := none } : Oper)) (v := ?_) rfl (by kernel_rfl) (by kernel_rfl) (by kernel_rfl) (fun _ _ _ h => h) (Or.inl ⟨by rfl, ?_⟩) (by assumption) ?_
        rotate_left 1
        · intro w hSw
          (try dsimp only at hSw)
          go_simp
          (try with_reducible rfl)
        (try simp only [Act.put, List.setIfInBounds_toArray, List.set_cons_zero, List.set_cons_succ])
        refine wpAnyH_done (by kernel_rfl) ?_ _
        refine NoPanic.normal ?_
        by_cases hcmp : S.wantHi p false < S.pHi nx false ∨ S.wantHi p false = S.pHi nx false ∧ 0 < S.pLo nx false
        · have hnxt : S.rootAt p false (j + 1) = m0 := by rw [HN.out, if_pos hcmp]
          rw [S.lt_bool, decide_eq_true hcmp]
          clear hcmp
          go_wp2_with fail
          go_roundw
          case rel => first | exact ⟨j + 1, by have := HJ.out; omega, by rw [hnxt], by have h1 := HBJ.out; have h2 := HJ.out; congr 1; omega, hrow2, hb2'⟩ | ((repeat apply Exists.intro); exact ⟨⟨j + 1, by have := HJ.out; omega, by rw [hnxt], by have h1 := HBJ.out; have h2 := HJ.out; congr 1; omega, hrow2, hb2'⟩, rfl⟩)
          case measure => simp [intOf]
        · have hnxt : S.rootAt p false (j + 1) = nx := by rw [HN.out, if_neg hcmp]
          rw [S.lt_bool, decide_eq_false hcmp]
          clear hcmp
          go_wp2_with fail
          go_roundw
          case rel => first | exact ⟨j + 1, by have := HJ.out; omega, by rw [hnxt], by have h1 := HBJ.out; have h2 := HJ.out; congr 1; omega, hrow2, hb2'⟩ | ((repeat apply Exists.intro); exact ⟨⟨j + 1, by have := HJ.out; omega, by rw [hnxt], by have h1 := HBJ.out; have h2 := HJ.out; congr 1; omega, hrow2, hb2'⟩, rfl⟩)
          case measure => simp [intOf]
      · obtain rfl : j = 41 := by omega
        go_wp2_with fail
        go_ret
        exact ⟨rfl, hbel⟩
  | true =>
    obtain ⟨wh, hwh⟩ : ∃ wh, wh = S.wantHi p true := ⟨_, rfl⟩
    have hwe : IntKind.u64.wrap ((p : Int) * 4294967296) = (wh : Int) := by rw [S.wrap_u64', hwh, S.wantHi_yes]; omega
    have hwe2 : (p : Int) * 4294967296 = (wh : Int) := by rw [hwh, S.wantHi_yes]; omega
    have HWH := Lib.hid hwh
    clear hwh
    go_wp2_with fail
    clear hwe hwe2
    rw [HWH.out]
    clear HWH wh
    have hrow0 : S.Row _ w.heap.size 106 [.int .u64 (S.wantHi p true : Nat), .int .u64 0] := S.Row.made w _ _ rfl rfl
    have hb0 := (Below.refl w.heap.size w).alloc (Nat.le_refl _) (.cells #[.int .u64 (S.wantHi p true : Nat), .int .u64 0] 106)
    go_loopw [6, 7] (fun m b wr => ∃ j : Nat, j ≤ 41 ∧ m = .int .u64 (S.rootAt p true j : Nat) ∧ b = .int .i64 (40 - (j : Int)) ∧ S.Row wr w.heap.size 106 [.int .u64 (S.wantHi p true : Nat), .int .u64 0] ∧ Below w.heap.size w wr) (fun _ b _ => (intOf b + 1).toNat)
    case atStart => exact ⟨0, by omega, rfl, rfl, hrow0, hb0⟩
    case round =>
      clear hrow0 hb0
      obtain ⟨j, hj, rfl, rfl, hrow, hbel⟩ := hrel
      by_cases hlt : j < 41
      · obtain ⟨b, hb⟩ : ∃ b : Nat, b = 40 - j := ⟨_, rfl⟩
        rw [show (40 : Int) - (j : Int) = (b : Int) by omega]
        have hb40 : b ≤ 40 := by omega
        have hle := S.rootAt_le p true (j + 1) (by omega)
        have hle0 := S.rootAt_le p true j hj
        have hpb := Nat.two_pow_pos b
        have hpe : 2 ^ (41 - j) = 2 ^ b + 2 ^ b := by rw [show 41 - j = b + 1 by omega, Nat.pow_succ]; omega
        rw [hpe] at hle0
        have HN := Lib.hid (show S.rootAt p true (j + 1) = if S.wantHi p true < S.pHi (S.rootAt p true j + 2 ^ b) true ∨ S.wantHi p true = S.pHi (S.rootAt p true j + 2 ^ b) true ∧ 0 < S.pLo (S.rootAt p true j + 2 ^ b) true then S.rootAt p true j else S.rootAt p true j + 2 ^ b by rw [hb]; rfl)
        generalize S.rootAt p true j = m0 at hle0 HN ⊢
        obtain ⟨pb, hpb0⟩ : ∃ pb : Nat, pb = 2 ^ b := ⟨_, rfl⟩
        have hpc : (1 : Int) * 2 ^ b = (pb : Int) := by rw [hpb0, Int.one_mul]; simp
        have hpd : (2 : Int) ^ b = (pb : Int) := by rw [hpb0]; simp
        rw [← hpb0] at hle0 HN hpb
        obtain ⟨nx, hnx0⟩ : ∃ nx, nx = m0 + pb := ⟨_, rfl⟩
        have hnx : nx < 18446744073709551616 := by omega
        rw [← hnx0] at HN
        have hsum : (m0 : Int) + (pb : Int) = (nx : Int) := by omega
        have HW := Lib.hid (show IntKind.u64.wrap ((m0 : Int) + IntKind.u64.wrap ((2 : Int) ^ b)) = (nx : Int) by rw [hpd, S.wrap_u64', S.wrap_u64']; omega)
        have HJ := Lib.hid hlt
        have HBJ := Lib.hid hb
        clear hpe hle hpb hle0 hsum hpd hpc hb hj hlt hnx0 hpb0
        go_wp2_with fail
        rw [HW.out]
        refine wp_region_noPanic ?_
        refine wp_region_held_drew (S := fun W => S.Row W w.heap.size 106 [.int .u64 (S.wantHi p true : Nat), .int .u64 0]) (by kernel_rfl) hrow (fun hHeld => ?_)
        refine wpAnyH_take (i := 0) (oi := ({ dst := some 24, op := Op.load 106 (Operand.tmp 5), type := 106, pos := "ref.go:57", after := #[], guard := none } : Oper)) (v := .agg #[.int .u64 (S.wantHi p true : Nat), .int .u64 0]) rfl (by kernel_rfl) (by kernel_rfl) (by kernel_rfl) (fun _ _ _ h => h) (Or.inl ⟨by rfl, ?_⟩) (by assumption) ?_
        · exact fun W hSw => S.run_load_part W _ _ _ (.tmp 5) rfl w.heap.size 0 rfl #[.int .u64 (S.wantHi p true : Nat), .int .u64 0] _ (fun j v hj => by rw [Nat.zero_add]; exact S.Row.cell hSw hj) Tryd.underlying106 rfl S.info_wide
        (try simp only [Act.put, List.setIfInBounds_toArray, List.set_cons_zero, List.set_cons_succ])
        refine wpAnyH_take (i := 1) (oi := ({ dst := some 25, op := Op.move (Operand.tmp 8), type := 48, pos := "ref.go:57", after := #[], guard := none } : Oper)) (v := ?_) rfl (by kernel_rfl) (by kernel_rfl) (by kernel_rfl) (fun _ _ _ h => h) (Or.inl ⟨by rfl, ?_⟩) (by assumption) ?_
        rotate_left 1
        · intro w hSw
          (try dsimp only at hSw)
          go_simp
          (try with_reducible rfl)
        (try simp only [Act.put, List.setIfInBounds_toArray, List.set_cons_zero, List.set_cons_succ])
        refine wpAnyH_take (i := 2) (oi := ({ dst := some 26, op := Op.move (Operand.tmp 1), type := 4, pos := "ref.go:57", after := #[], guard := none } : Oper)) (v := ?_) rfl (by kernel_rfl) (by kernel_rfl) (by kernel_rfl) (fun _ _ _ h => h) (Or.inl ⟨by rfl, ?_⟩) (by assumption) ?_
        rotate_left 1
        · intro w hSw
          (try dsimp only at hSw)
          go_simp
          (try with_reducible rfl)
        (try simp only [Act.put, List.setIfInBounds_toArray, List.set_cons_zero, List.set_cons_succ])
        refine wpAnyH_ready (rs := [3]) (by kernel_rfl) (by simp) ?_
        refine AllReadyH.cons (o := ({ dst := some 27, op := Op.call { callee := Callee.value (Operand.func 74), args := #[Operand.tmp 25, Operand.tmp 26], argTypes := #[48, 4] }, type := 106, pos := "ref.go:57", after := #[{ on := 1, ground := Ground.data }, { on := 2, ground := Ground.data }], guard := none } : Oper)) rfl (fun K hK => ?_) AllReadyH.nil
        go_simp
        refine (power_any nx hnx true _).mono ?_
        rintro e w1 ⟨rfl, hb1⟩
        have hb1 : Below wr.heap.size wr w1 := (Below.refl _ wr).drew.trans hb1
        have hrow1 : S.Row w1 w.heap.size 106 [.int .u64 (S.wantHi p true : Nat), .int .u64 0] := S.Row.below (w := wr) hrow hb1 hrow.lt
        have hb1' := hbel.trans (hb1.mono (B := wr.heap.size) hbel.size)
        refine hK.out _ _ hrow1 (fun _ => ?_)
        clear hK K
        (try simp only [Act.put, List.setIfInBounds_toArray, List.set_cons_zero, List.set_cons_succ])
        refine wpAnyH_ready (rs := [4]) (by kernel_rfl) (by simp) ?_
        refine AllReadyH.cons (o := ({ dst := some 28, op := Op.call { callee := Callee.value (Operand.func 73), args := #[Operand.tmp 24, Operand.tmp 27], argTypes := #[106, 106] }, type := 4, pos := "ref.go:57", after := #[{ on := 0, ground := Ground.data }, { on := 3, ground := Ground.data }, { on := 3, ground := Ground.chain }], guard := none } : Oper)) rfl (fun K hK => ?_) AllReadyH.nil
        go_simp
        refine (less_any (S.wantHi p true) 0 (S.pHi nx true) (S.pLo nx true) _).mono ?_
        rintro e w2 ⟨rfl, hb2⟩
        have hrow2 : S.Row w2 w.heap.size 106 [.int .u64 (S.wantHi p true : Nat), .int .u64 0] := S.Row.below (w := w1) hrow1 hb2 hrow1.lt
        have hb2' := hb1'.trans (hb2.mono (B := w1.heap.size) hb1'.size)
        refine hK.out _ _ hrow2 (fun _ => ?_)
        clear hK K hHeld
        (try simp only [Act.put, List.setIfInBounds_toArray, List.set_cons_zero, List.set_cons_succ])
        refine wpAnyH_take (i := 5) (oi := ({ dst := some 29, op := Op.unOp UnOp.not 4 (Operand.tmp 28), type := 4, pos := "ref.go:57", after := #[{ on := 4, ground := Ground.data }], guard := none } : Oper)) (v := ?_) rfl (by kernel_rfl) (by kernel_rfl) (by kernel_rfl) (fun _ _ _ h => h) (Or.inl ⟨by rfl, ?_⟩) (by assumption) ?_
        rotate_left 1
        · intro w hSw
          (try dsimp only at hSw)
          go_simp
          (try with_reducible rfl)
        (try simp only [Act.put, List.setIfInBounds_toArray, List.set_cons_zero, List.set_cons_succ])
        refine wpAnyH_done (by kernel_rfl) ?_ _
        refine NoPanic.normal ?_
        by_cases hcmp : S.wantHi p true < S.pHi nx true ∨ S.wantHi p true = S.pHi nx true ∧ 0 < S.pLo nx true
        · have hnxt : S.rootAt p true (j + 1) = m0 := by rw [HN.out, if_pos hcmp]
          rw [S.lt_bool, decide_eq_true hcmp]
          clear hcmp
          go_wp2_with fail
          go_roundw
          case rel => first | exact ⟨j + 1, by have := HJ.out; omega, by rw [hnxt], by have h1 := HBJ.out; have h2 := HJ.out; congr 1; omega, hrow2, hb2'⟩ | ((repeat apply Exists.intro); exact ⟨⟨j + 1, by have := HJ.out; omega, by rw [hnxt], by have h1 := HBJ.out; have h2 := HJ.out; congr 1; omega, hrow2, hb2'⟩, rfl⟩)
          case measure => simp [intOf]
        · have hnxt : S.rootAt p true (j + 1) = nx := by rw [HN.out, if_neg hcmp]
          rw [S.lt_bool, decide_eq_false hcmp]
          clear hcmp
          go_wp2_with fail
          go_roundw
          case rel => first | exact ⟨j + 1, by have := HJ.out; omega, by rw [hnxt], by have h1 := HBJ.out; have h2 := HJ.out; congr 1; omega, hrow2, hb2'⟩ | ((repeat apply Exists.intro); exact ⟨⟨j + 1, by have := HJ.out; omega, by rw [hnxt], by have h1 := HBJ.out; have h2 := HJ.out; congr 1; omega, hrow2, hb2'⟩, rfl⟩)
          case measure => simp [intOf]
      · obtain rfl : j = 41 := by omega
        go_wp2_with fail
        go_ret
        exact ⟨rfl, hbel⟩
end Go.Proofs.YtgpgnfdbjljljaaDoor
