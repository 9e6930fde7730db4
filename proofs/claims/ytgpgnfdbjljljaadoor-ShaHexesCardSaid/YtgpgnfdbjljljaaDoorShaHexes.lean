/- The walk of the law ShaHexes. -/
import Derived.Test.YtgpgnfdbjljljaaDoorShaHxRParse
import Derived.Test.YtgpgnfdbjljljaaDoorHmRHex
import Derived.Deep.RegionHeld3
namespace Go.Proofs.YtgpgnfdbjljljaaDoor
open Go.RowKit
theorem S.wpList_load_if {P : Program} {ops : Array Oper} {rest : List Oper} {o : Oper} {a : Act} {w : World} {Q : Exit → Act → World → Prop} (hw : Region.wanted o (yielded ops a.tmps) = true) (ty : TypeId) (x : Operand) (ho : o.op = .load ty x)
    (g : Nat) (hx : a.eval x = .pointer (some ⟨g, 0, none⟩)) (t : TypeId) (cs : Array Value) (fr : Nat × Nat) (d : TypeDesc) (hg : w.heap[g]? = some (.cells cs t fr))
    (hu : P.underlying ty = some d) (hd : (match d with | .struct _ | .array _ _ => true | _ => false) = true) (hi : (P.info? ty).map (·.size) = some cs.size)
    (h : wpList P ops Q rest (a.put o.dst (.agg cs)) w) : wpList P ops Q (o :: rest) a w := by
  unfold wpList
  rw [if_pos hw]
  exact .inl (wp_load_row ty x ho g hx t cs fr d hg hu hd hi h)
set_option linter.unusedSimpArgs false in
set_option maxRecDepth 100000 in
set_option maxHeartbeats 4000000 in
theorem ShaHexes_walk (d s : List UInt8) (hd : d.length = 32) (hs : s.length ≤ 9223372036854775807) (w : World) (hK : S.SLaid w) :
    Calls Tryd.prog 3 #[.agg (d.map S.byteV).toArray, .string ⟨s.toArray⟩] w fun e w' => e = .returned (.bool true) ∧ Below w.heap.size w w' := by
  have h2 := hK.lt.1
  have HK := Lib.hid hK
  have hShown := fun w hw => shown_any w hw
  obtain ⟨DV, HDV⟩ : ∃ DV, Hid (DV = d.map S.byteV) := ⟨_, Lib.hid rfl⟩
  have HDVl := Lib.hid (show DV.length = 32 by rw [HDV.out]; simp [hd])
  have HDVi := Lib.hid (show (Tryd.prog.info? 22).map (·.size) = some DV.toArray.size by rw [S.info_d32]; simp [HDVl.out])
  have HDV1 := Lib.hid (show DV.toArray.all (·.oneCell') = true by rw [HDV.out]; exact S.bvals_one _)
  have hb0 : Below w.heap.size w (w.alloc (.cells DV.toArray 22)) := (Below.refl _ _).alloc (Nat.le_refl _) _
  have hd0 : S.Row (w.alloc (.cells DV.toArray 22)) w.heap.size 22 DV := S.Row.made _ _ _ rfl rfl
  have HHx := Lib.hid (fun w => Hex_any d hd w)
  have HRx := Lib.hid (fun w => RHex_any d hd w)
  have HPx := fun w => Parse_any (S.hexOf d) w
  have hgx := S.good_hex hd
  rw [hgx.2, show S.perr (S.hexOf d) = 0 by rw [S.perr, hgx.1]; rfl] at HPx
  replace HPx := Lib.hid HPx
  rw [← HDV.out] at HHx HRx HPx ⊢
  generalize S.hexOf d = hx at HHx HRx HPx
  by_cases h200 : s.length ≤ 200
  · have hn : ¬ (200 : Int) < (s.length : Int) := by omega
    have HP1 := Lib.hid (fun w => Parse_any s w)
    have HP2 := Lib.hid (fun w => RParse_any s w)
    obtain ⟨R, HR⟩ : ∃ R, Hid (R = (S.parsed s).map S.byteV) := ⟨_, Lib.hid rfl⟩
    have HRl := Lib.hid (show R.length = 32 by rw [HR.out, List.length_map, S.parsed_len])
    have HRi := Lib.hid (show (Tryd.prog.info? 22).map (·.size) = some R.toArray.size by rw [S.info_d32]; simp [HRl.out])
    have HR1 := Lib.hid (show R.toArray.all (·.oneCell') = true by rw [HR.out]; exact S.bvals_one _)
    have HHa := fun w => Hex_any (S.parsed s) (S.parsed_len s) w
    rw [← HR.out] at HP1 HP2 HHa
    have heq : ∀ W, (Op.equalIn 10000 22 (.agg R.toArray) (.agg R.toArray)).run Tryd.prog W = .ok true W := fun W => by rw [HR.out]; exact S.eq_d32 _ (S.parsed_len s) W
    have heq2 : ∀ W, (Op.equalIn 10000 22 (.agg DV.toArray) (.agg DV.toArray)).run Tryd.prog W = .ok true W := fun W => by rw [HDV.out]; exact S.eq_d32 _ hd W
    have hgd := S.guard_d32
    have HCase := Lib.hid (show (S.perr s = 0 ∧ S.hexOf (S.parsed s) = s) ∨ S.perr s = 6 by
      cases h : S.good s with
      | true => exact .inl ⟨by rw [S.perr, h]; rfl, S.hex_good h⟩
      | false => exact .inr (by rw [S.perr, h]; rfl))
    obtain ⟨E, HE⟩ : ∃ E, Hid (E = S.perr s) := ⟨_, Lib.hid rfl⟩
    rw [← HE.out] at HP1 HP2 HCase
    replace HHa := Lib.hid HHa
    clear hgx hK
    go_enter Tryd.func3, Tryd.ntmps3
    go_wp2_with fail
    refine (HP1.out _).mono ?_
    rintro e w1 ⟨rfl, hb1⟩
    have hd1 := hd0.below hb1 hd0.lt
    have hb01 := hb0.trans (hb1.mono (by simp))
    clear hd0 hb0 hb1
    go_wp2_with (refine S.wpList_store_but rfl 22 (.tmp 5) (.tmp 17) rfl w1.heap.size R rfl rfl _ _ (S.Row.made (l := List.replicate 32 (S.byteV 0)) _ _ _ rfl rfl) HRi.out (by rw [HRl.out]; rfl) HR1.out ?_; intro w2 hr2 hbut2; have hd2 := hbut2.row (hd1.alloc _) (by have := hd1.lt; omega); have hb02 := (hb01.alloc hb01.size (.cells (Array.replicate 32 (S.byteV 0)) 22)).trans (hbut2.below (C := w.heap.size) hb01.size (by have := hb01.size; simp; omega)); clear hbut2 hd1 hb01)
    refine (HP2.out _).mono ?_
    rintro e w3 ⟨rfl, hb3⟩
    have hd3 := hd2.below hb3 hd2.lt
    have hr3 := hr2.below hb3 hr2.lt
    have hb03 := hb02.trans (hb3.mono hb02.size)
    clear hd2 hr2 hb02 hb3
    go_wp2_with (refine S.wpList_store_but rfl 22 (.tmp 7) (.tmp 22) rfl w3.heap.size R rfl rfl _ _ (S.Row.made (l := List.replicate 32 (S.byteV 0)) _ _ _ rfl rfl) HRi.out (by rw [HRl.out]; rfl) HR1.out ?_; intro w4 hr4' hbut4; have hd4 := hbut4.row (hd3.alloc _) (by have := hd3.lt; omega); have hr4 := hbut4.row (hr3.alloc _) (by have := hr3.lt; omega); have HW4 := Lib.hid ((hb03.alloc hb03.size (.cells (Array.replicate 32 (S.byteV 0)) 22)).trans (hbut4.below (C := w.heap.size) hb03.size (by have := hb03.size; simp; omega))); clear hbut4 hd3 hr3 hb03)
    refine wp_region_noPanic ?_
    refine wp_region_held_drew (S := fun W => S.Row W w.heap.size 22 DV ∧ S.Row W w1.heap.size 22 R ∧ S.Row W w3.heap.size 22 R) (by kernel_rfl) ⟨hd4, hr4, hr4'⟩ (fun hHeld => ?_)
    refine wpAnyH_take (i := 0) (oi := ({ dst := some 24, op := Op.load 22 (Operand.tmp 2), type := 22, pos := "law.go:42", after := #[], guard := none } : Oper)) (v := .agg DV.toArray) rfl (by kernel_rfl) (by kernel_rfl) (by kernel_rfl) (fun _ _ _ h => h) (Or.inl ⟨by rfl, ?_⟩) (by assumption) ?_
    · exact fun W hSw => S.run_load_part W _ _ _ (.tmp 2) rfl w.heap.size 0 rfl DV.toArray _ (fun j v hj => by rw [Nat.zero_add]; exact S.Row.cell hSw.1 hj) Tryd.underlying22 rfl HDVi.out
    (try simp only [Act.put, List.setIfInBounds_toArray, List.set_cons_zero, List.set_cons_succ])
    refine wpAnyH_take (i := 2) (oi := ({ dst := some 26, op := Op.load 22 (Operand.tmp 2), type := 22, pos := "law.go:42", after := #[], guard := none } : Oper)) (v := .agg DV.toArray) rfl (by kernel_rfl) (by kernel_rfl) (by kernel_rfl) (fun _ _ _ h => h) (Or.inl ⟨by rfl, ?_⟩) (by assumption) ?_
    · exact fun W hSw => S.run_load_part W _ _ _ (.tmp 2) rfl w.heap.size 0 rfl DV.toArray _ (fun j v hj => by rw [Nat.zero_add]; exact S.Row.cell hSw.1 hj) Tryd.underlying22 rfl HDVi.out
    (try simp only [Act.put, List.setIfInBounds_toArray, List.set_cons_zero, List.set_cons_succ])
    refine wpAnyH_ready (rs := [1]) (by kernel_rfl) (by simp) ?_
    refine AllReadyH.cons (o := ({ dst := some 25, op := Op.call { callee := Callee.value (Operand.func 17), args := #[Operand.tmp 24], argTypes := #[22] }, type := 9, pos := "law.go:42", after := #[{ on := 0, ground := Ground.data }], guard := none } : Oper)) rfl (fun K hK => ?_) AllReadyH.nil
    go_simp
    refine (HHx.out _).mono ?_
    rintro e w5 ⟨rfl, hb5⟩
    have hb5 : Below w4.heap.size w4 w5 := (Below.refl _ w4).drew.trans hb5
    have hd5 := hd4.below hb5 hd4.lt
    have hr5 := hr4.below hb5 hr4.lt
    have hr5' := hr4'.below hb5 hr4'.lt
    have HW5 := Lib.hid (HW4.out.trans (hb5.mono HW4.out.size))
    refine hK.out _ _ ⟨hd5, hr5, hr5'⟩ (fun _ => ?_)
    clear hK K hHeld hb5
    (try simp only [Act.put, List.setIfInBounds_toArray, List.set_cons_zero, List.set_cons_succ])
    refine wpAnyH_ready (rs := [3]) (by kernel_rfl) (by simp) ?_
    refine AllReadyH.cons (o := ({ dst := some 27, op := Op.call { callee := Callee.value (Operand.func 18), args := #[Operand.tmp 26], argTypes := #[22] }, type := 9, pos := "law.go:42", after := #[{ on := 2, ground := Ground.data }, { on := 1, ground := Ground.chain }], guard := none } : Oper)) rfl (fun K hK => ?_) AllReadyH.nil
    go_simp
    refine (HRx.out _).mono ?_
    rintro e w6 ⟨rfl, hb6⟩
    have hd6 := hd5.below hb6 hd5.lt
    have hr6 := hr5.below hb6 hr5.lt
    have hr6' := hr5'.below hb6 hr5'.lt
    have HW6 := Lib.hid (HW5.out.trans (hb6.mono HW5.out.size))
    refine hK.out _ _ ⟨hd6, hr6, hr6'⟩ (fun _ => ?_)
    clear hK K hb6
    (try simp only [Act.put, List.setIfInBounds_toArray, List.set_cons_zero, List.set_cons_succ])
    refine wpAnyH_take (i := 4) (oi := ({ dst := some 28, op := Op.binOp BinOp.neq 9 (Operand.tmp 25) (Operand.tmp 27) 9, type := 4, pos := "law.go:42", after := #[{ on := 1, ground := Ground.data }, { on := 3, ground := Ground.data }], guard := none } : Oper)) (v := ?_) rfl (by kernel_rfl) (by kernel_rfl) (by kernel_rfl) (fun _ _ _ h => h) (Or.inl ⟨by rfl, ?_⟩) (by assumption) ?_
    rotate_left 1
    · intro w hSw
      (try dsimp only at hSw)
      go_simp
      (try with_reducible rfl)
    (try simp only [Act.put, List.setIfInBounds_toArray, List.set_cons_zero, List.set_cons_succ])
    refine wpAnyH_take (i := 5) (oi := ({ dst := some 29, op := Op.move (Operand.tmp 28), type := 4, pos := "law.go:42", after := #[{ on := 4, ground := Ground.data }, { on := 3, ground := Ground.chain }], guard := none } : Oper)) (v := ?_) rfl (by kernel_rfl) (by kernel_rfl) (by kernel_rfl) (fun _ _ _ h => h) (Or.inl ⟨by rfl, ?_⟩) (by assumption) ?_
    rotate_left 1
    · intro w hSw
      (try dsimp only at hSw)
      go_simp
      (try with_reducible rfl)
    (try simp only [Act.put, List.setIfInBounds_toArray, List.set_cons_zero, List.set_cons_succ])
    refine wpAnyH_take (i := 6) (oi := ({ dst := some 30, op := Op.load 22 (Operand.tmp 5), type := 22, pos := "law.go:42", after := #[{ on := 5, ground := Ground.guard }], guard := some (5, false) } : Oper)) (v := .agg R.toArray) rfl (by kernel_rfl) (by kernel_rfl) (by kernel_rfl) (fun _ _ _ h => h) (Or.inl ⟨by rfl, ?_⟩) (by assumption) ?_
    · exact fun W hSw => S.run_load_part W _ _ _ (.tmp 5) rfl w1.heap.size 0 rfl R.toArray _ (fun j v hj => by rw [Nat.zero_add]; exact S.Row.cell hSw.2.1 hj) Tryd.underlying22 rfl HRi.out
    (try simp only [Act.put, List.setIfInBounds_toArray, List.set_cons_zero, List.set_cons_succ])
    refine wpAnyH_take (i := 7) (oi := ({ dst := some 31, op := Op.load 22 (Operand.tmp 7), type := 22, pos := "law.go:42", after := #[{ on := 5, ground := Ground.guard }], guard := some (5, false) } : Oper)) (v := .agg R.toArray) rfl (by kernel_rfl) (by kernel_rfl) (by kernel_rfl) (fun _ _ _ h => h) (Or.inl ⟨by rfl, ?_⟩) (by assumption) ?_
    · exact fun W hSw => S.run_load_part W _ _ _ (.tmp 7) rfl w3.heap.size 0 rfl R.toArray _ (fun j v hj => by rw [Nat.zero_add]; exact S.Row.cell hSw.2.2 hj) Tryd.underlying22 rfl HRi.out
    (try simp only [Act.put, List.setIfInBounds_toArray, List.set_cons_zero, List.set_cons_succ])
    refine wpAnyH_take (i := 8) (oi := ({ dst := some 32, op := Op.binOp BinOp.neq 22 (Operand.tmp 30) (Operand.tmp 31) 22, type := 4, pos := "law.go:42", after := #[{ on := 6, ground := Ground.data }, { on := 7, ground := Ground.data }, { on := 5, ground := Ground.guard }], guard := some (5, false) } : Oper)) (v := ?_) rfl (by kernel_rfl) (by kernel_rfl) (by kernel_rfl) (fun _ _ _ h => h) (Or.inl ⟨by rfl, ?_⟩) (by assumption) ?_
    rotate_left 1
    · intro w hSw
      (try dsimp only at hSw)
      go_simp
      (try with_reducible rfl)
    (try simp only [Act.put, List.setIfInBounds_toArray, List.set_cons_zero, List.set_cons_succ])
    refine wpAnyH_take (i := 9) (oi := ({ dst := some 33, op := Op.pick (Operand.tmp 29) (Operand.const (Value.bool true)) (Operand.tmp 32), type := 4, pos := "law.go:42", after := #[{ on := 5, ground := Ground.data }, { on := 8, ground := Ground.data }], guard := none } : Oper)) (v := ?_) rfl (by kernel_rfl) (by kernel_rfl) (by kernel_rfl) (fun _ _ _ h => h) (Or.inl ⟨by rfl, ?_⟩) (by assumption) ?_
    rotate_left 1
    · intro w hSw
      (try dsimp only at hSw)
      go_simp
      (try with_reducible rfl)
    (try simp only [Act.put, List.setIfInBounds_toArray, List.set_cons_zero, List.set_cons_succ])
    refine wpAnyH_take (i := 10) (oi := ({ dst := some 34, op := Op.move (Operand.tmp 33), type := 4, pos := "law.go:42", after := #[{ on := 9, ground := Ground.data }, { on := 5, ground := Ground.chain }], guard := none } : Oper)) (v := ?_) rfl (by kernel_rfl) (by kernel_rfl) (by kernel_rfl) (fun _ _ _ h => h) (Or.inl ⟨by rfl, ?_⟩) (by assumption) ?_
    rotate_left 1
    · intro w hSw
      (try dsimp only at hSw)
      go_simp
      (try with_reducible rfl)
    (try simp only [Act.put, List.setIfInBounds_toArray, List.set_cons_zero, List.set_cons_succ])
    refine wpAnyH_take (i := 11) (oi := ({ dst := some 35, op := Op.move (Operand.tmp 6), type := 24, pos := "law.go:42", after := #[{ on := 10, ground := Ground.guard }], guard := some (10, false) } : Oper)) (v := ?_) rfl (by kernel_rfl) (by kernel_rfl) (by kernel_rfl) (fun _ _ _ h => h) (Or.inl ⟨by rfl, ?_⟩) (by assumption) ?_
    rotate_left 1
    · intro w hSw
      (try dsimp only at hSw)
      go_simp
      (try with_reducible rfl)
    (try simp only [Act.put, List.setIfInBounds_toArray, List.set_cons_zero, List.set_cons_succ])
    refine wpAnyH_take (i := 12) (oi := ({ dst := some 36, op := Op.move (Operand.tmp 8), type := 24, pos := "law.go:42", after := #[{ on := 10, ground := Ground.guard }], guard := some (10, false) } : Oper)) (v := ?_) rfl (by kernel_rfl) (by kernel_rfl) (by kernel_rfl) (fun _ _ _ h => h) (Or.inl ⟨by rfl, ?_⟩) (by assumption) ?_
    rotate_left 1
    · intro w hSw
      (try dsimp only at hSw)
      go_simp
      (try with_reducible rfl)
    (try simp only [Act.put, List.setIfInBounds_toArray, List.set_cons_zero, List.set_cons_succ])
    refine wpAnyH_take (i := 13) (oi := ({ dst := some 37, op := Op.binOp BinOp.neq 24 (Operand.tmp 35) (Operand.tmp 36) 24, type := 4, pos := "law.go:42", after := #[{ on := 11, ground := Ground.data }, { on := 12, ground := Ground.data }, { on := 10, ground := Ground.guard }], guard := some (10, false) } : Oper)) (v := ?_) rfl (by kernel_rfl) (by kernel_rfl) (by kernel_rfl) (fun _ _ _ h => h) (Or.inl ⟨by rfl, ?_⟩) (by assumption) ?_
    rotate_left 1
    · intro w hSw
      (try dsimp only at hSw)
      go_simp
      (try with_reducible rfl)
    (try simp only [Act.put, List.setIfInBounds_toArray, List.set_cons_zero, List.set_cons_succ])
    refine wpAnyH_take (i := 14) (oi := ({ dst := some 38, op := Op.pick (Operand.tmp 34) (Operand.const (Value.bool true)) (Operand.tmp 37), type := 4, pos := "law.go:42", after := #[{ on := 10, ground := Ground.data }, { on := 13, ground := Ground.data }], guard := none } : Oper)) (v := ?_) rfl (by kernel_rfl) (by kernel_rfl) (by kernel_rfl) (fun _ _ _ h => h) (Or.inl ⟨by rfl, ?_⟩) (by assumption) ?_
    rotate_left 1
    · intro w hSw
      (try dsimp only at hSw)
      go_simp
      (try with_reducible rfl)
    (try simp only [Act.put, List.setIfInBounds_toArray, List.set_cons_zero, List.set_cons_succ])
    refine wpAnyH_done (by kernel_rfl) ?_ _
    refine NoPanic.normal ?_
    rcases HCase.out with ⟨hE, hHx⟩ | hE
    · subst hE
      have HHa' := HHa.out
      rw [hHx] at HHa'
      replace HHa' := Lib.hid HHa'
      clear hHx HHa HCase HE
      clear hd4 hr4 hr4' hd5 hr5 hr5' hr6'
      go_wp2_with (refine wpList_load_row rfl 22 (.tmp 2) rfl w.heap.size rfl _ DV.toArray (0, 0) _ hd6 Tryd.underlying22 rfl HDVi.out ?_)
      refine (HHx.out _).mono ?_
      rintro e w7 ⟨rfl, hb7⟩
      have hd7 := hd6.below hb7 hd6.lt
      have hr7 := hr6.below hb7 hr6.lt
      have HW7 := Lib.hid (HW6.out.trans (hb7.mono HW6.out.size))
      clear hd6 hr6 hb7
      go_wp2_with fail
      refine (HPx.out _).mono ?_
      rintro e w8 ⟨rfl, hb8⟩
      have hd8 := hd7.below hb8 hd7.lt
      have hr8 := hr7.below hb8 hr7.lt
      have hW8 := HW7.out.trans (hb8.mono HW7.out.size)
      clear hd7 hr7 hb8
      go_wp2_with (first
        | (refine S.wpList_store_but rfl 22 (.tmp 9) (.tmp 43) rfl w8.heap.size DV rfl rfl _ _ (S.Row.made (l := List.replicate 32 (S.byteV 0)) _ _ _ rfl rfl) HDVi.out (by rw [HDVl.out]; rfl) HDV1.out ?_; intro w9 hc9 hbut9; have hd9 := hbut9.row (hd8.alloc _) (by have := hd8.lt; omega); have hr9 := hbut9.row (hr8.alloc _) (by have := hr8.lt; omega); have HW9 := Lib.hid ((hW8.alloc hW8.size (.cells (Array.replicate 32 (S.byteV 0)) 22)).trans (hbut9.below (C := w.heap.size) hW8.size (by have := hW8.size; simp; omega))); clear hbut9 hd8 hr8 hW8)
        | (refine S.wpList_load_if rfl 22 (.tmp 9) rfl w8.heap.size rfl _ DV.toArray (0, 0) _ hc9 Tryd.underlying22 rfl HDVi.out ?_)
        | (refine S.wpList_load_if rfl 22 (.tmp 2) rfl w.heap.size rfl _ DV.toArray (0, 0) _ hd9 Tryd.underlying22 rfl HDVi.out ?_)
        | (refine S.wpList_load_if rfl 22 (.tmp 5) rfl w1.heap.size rfl _ R.toArray (0, 0) _ hr9 Tryd.underlying22 rfl HRi.out ?_))
      refine (HHa'.out _).mono ?_
      rintro e w10 ⟨rfl, hb10⟩
      have HW10 := Lib.hid (HW9.out.trans (hb10.mono HW9.out.size))
      clear hb10
      go_wp2_with fail
      refine (hShown _ (HK.out.below HW10.out (by omega))).mono ?_
      rintro e w12 ⟨rfl, hb12⟩
      have HW12 := Lib.hid (HW10.out.trans (hb12.mono HW10.out.size))
      clear hb12
      go_wp2_with fail
      go_ret
      exact ⟨rfl, HW12.out⟩
    · subst hE
      clear HHa HCase HE
      clear hd4 hr4 hr4' hd5 hr5 hr5' hr6'
      go_wp2_with (refine wpList_load_row rfl 22 (.tmp 2) rfl w.heap.size rfl _ DV.toArray (0, 0) _ hd6 Tryd.underlying22 rfl HDVi.out ?_)
      refine (HHx.out _).mono ?_
      rintro e w7 ⟨rfl, hb7⟩
      have hd7 := hd6.below hb7 hd6.lt
      have hr7 := hr6.below hb7 hr6.lt
      have HW7 := Lib.hid (HW6.out.trans (hb7.mono HW6.out.size))
      clear hd6 hr6 hb7
      go_wp2_with fail
      refine (HPx.out _).mono ?_
      rintro e w8 ⟨rfl, hb8⟩
      have hd8 := hd7.below hb8 hd7.lt
      have hr8 := hr7.below hb8 hr7.lt
      have hW8 := HW7.out.trans (hb8.mono HW7.out.size)
      clear hd7 hr7 hb8
      go_wp2_with (first
        | (refine S.wpList_store_but rfl 22 (.tmp 9) (.tmp 43) rfl w8.heap.size DV rfl rfl _ _ (S.Row.made (l := List.replicate 32 (S.byteV 0)) _ _ _ rfl rfl) HDVi.out (by rw [HDVl.out]; rfl) HDV1.out ?_; intro w9 hc9 hbut9; have hd9 := hbut9.row (hd8.alloc _) (by have := hd8.lt; omega); have hr9 := hbut9.row (hr8.alloc _) (by have := hr8.lt; omega); have HW9 := Lib.hid ((hW8.alloc hW8.size (.cells (Array.replicate 32 (S.byteV 0)) 22)).trans (hbut9.below (C := w.heap.size) hW8.size (by have := hW8.size; simp; omega))); clear hbut9 hd8 hr8 hW8)
        | (refine S.wpList_load_if rfl 22 (.tmp 9) rfl w8.heap.size rfl _ DV.toArray (0, 0) _ hc9 Tryd.underlying22 rfl HDVi.out ?_)
        | (refine S.wpList_load_if rfl 22 (.tmp 2) rfl w.heap.size rfl _ DV.toArray (0, 0) _ hd9 Tryd.underlying22 rfl HDVi.out ?_)
        | (refine S.wpList_load_if rfl 22 (.tmp 5) rfl w1.heap.size rfl _ R.toArray (0, 0) _ hr9 Tryd.underlying22 rfl HRi.out ?_))
      refine (hShown _ (HK.out.below HW9.out (by omega))).mono ?_
      rintro e w12 ⟨rfl, hb12⟩
      have HW12 := Lib.hid (HW9.out.trans (hb12.mono HW9.out.size))
      clear hb12
      go_wp2_with fail
      go_ret
      exact ⟨rfl, HW12.out⟩
  · have hn : (200 : Int) < (s.length : Int) := by omega
    have HB0 := Lib.hid hb0
    clear hd0 hb0 hgx hK
    go_enter Tryd.func3, Tryd.ntmps3
    go_wp2_with fail
    refine (hShown _ (HK.out.below HB0.out (by omega))).mono ?_
    rintro e w3 ⟨rfl, hb3⟩
    have HB3 := Lib.hid (HB0.out.trans (hb3.mono HB0.out.size))
    clear hb3
    go_wp2_with fail
    go_ret
    exact ⟨rfl, HB3.out⟩
end Go.Proofs.YtgpgnfdbjljljaaDoor
