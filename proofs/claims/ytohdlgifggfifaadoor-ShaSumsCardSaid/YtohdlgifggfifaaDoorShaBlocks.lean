/- The walk of the law ShaBlocks. -/
import Derived.Test.YtohdlgifggfifaaDoorShaRBlockF
import Derived.Test.YtohdlgifggfifaaDoorShaLaid
import Derived.Test.YtohdlgifggfifaaDoorShaLaws1
namespace Go.Proofs.YtohdlgifggfifaaDoor
open Go.RowKit
set_option linter.unusedSimpArgs false in
set_option maxRecDepth 100000 in
set_option maxHeartbeats 4000000 in
theorem ShaBlocks_walk (s : S.St) (hs : s.ok) (l : List UInt8) (hl : l.length = 64) (w : World) (hK : S.SLaid w) :
    Calls Tryd.prog 3 #[.agg (S.vals s), .agg (l.map S.byteV).toArray] w fun e w' => e = .returned (.bool true) ∧ Below w.heap.size w w' := by
  have h2 := hK.lt.1
  have HB := fun w hw => Block_any s hs l hl w hw
  have HR := fun w => RBlock_any s hs l hl w
  have HI := Lib.hid (show (Tryd.prog.info? 24).map (·.size) = some (l.map S.byteV).toArray.size by rw [S.info_bytes]; simp [hl])
  have heq8 : ∀ W, (Op.equalIn 10000 23 (.agg (S.vals (S.block s l))) (.agg (S.vals (S.block s l)))).run Tryd.prog W = .ok true W := fun W => S.eq_eight _ W
  have heqs : ∀ W, (Op.equalIn 10000 23 (.agg (S.vals S.start)) (.agg (S.vals S.start))).run Tryd.prog W = .ok true W := fun W => S.eq_eight _ W
  have heqk : ∀ W, (Op.equalIn 10000 26 (.agg (S.K.map S.wordV).toArray) (.agg (S.K.map S.wordV).toArray)).run Tryd.prog W = .ok true W := fun W => S.eq_w64 _ rfl W
  have hg8 := S.guard_eight
  have hgw := S.guard_w64
  obtain ⟨V, HV⟩ : ∃ V, Hid (V = S.vals (S.block s l)) := ⟨_, Lib.hid rfl⟩
  rw [← HV.out] at HB HR heq8
  obtain ⟨VS, HVS⟩ : ∃ VS, Hid (VS = S.vals s) := ⟨_, Lib.hid rfl⟩
  have HVE := Lib.hid (show (Tryd.prog.info? 23).map (·.size) = some VS.size by rw [HVS.out]; exact S.info_vals s)
  rw [← HVS.out] at HB HR ⊢
  obtain ⟨LB, HLB⟩ : ∃ LB, Hid (LB = l.map S.byteV) := ⟨_, Lib.hid rfl⟩
  rw [← HLB.out] at HB HR HI ⊢
  have HC1 := fun w hw => Constants_any w hw
  have HC2 := fun w => RConstants_any w
  obtain ⟨KV, HKV⟩ : ∃ KV, Hid (KV = (S.K.map S.wordV).toArray) := ⟨_, Lib.hid rfl⟩
  rw [← HKV.out] at HC1 HC2 heqk
  have HS1 := fun w hw => Start_any w hw
  have HS2 := fun w => RStart_any w
  obtain ⟨SV, HSV⟩ : ∃ SV, Hid (SV = S.vals S.start) := ⟨_, Lib.hid rfl⟩
  rw [← HSV.out] at HS1 HS2 heqs
  replace HB := Lib.hid HB
  replace HR := Lib.hid HR
  replace HC1 := Lib.hid HC1
  replace HC2 := Lib.hid HC2
  replace HS1 := Lib.hid HS1
  replace HS2 := Lib.hid HS2
  have HK := Lib.hid hK
  clear hl hs hK
  go_enter Tryd.func3, Tryd.ntmps3
  go_wp2_with fail
  generalize hwx : (w.alloc _).alloc _ = w0
  have hrowS0 : S.Row w0 w.heap.size 23 VS.toList := by rw [← hwx]; exact ((S.Row.new w _ _).alloc _)
  have hrowB0 : S.Row w0 (w.heap.size + 1) 24 LB := by rw [← hwx]; exact S.Row.made _ _ _ (by simp) rfl
  have hb0 : Below w.heap.size w w0 := by rw [← hwx]; exact ((Below.refl _ w).alloc (Nat.le_refl _) _).alloc (by simp) _
  clear hwx
  refine wp_region_noPanic ?_
  refine wp_region_held_drew (S := fun W => S.Row W w.heap.size 23 VS.toList ∧ S.Row W (w.heap.size + 1) 24 LB) (by kernel_rfl) ⟨hrowS0, hrowB0⟩ (fun hHeld => ?_)
  refine wpAnyH_take (i := 0) (oi := ({ dst := some 5, op := Op.load 23 (Operand.tmp 2), type := 23, pos := "law.go:20", after := #[], guard := none } : Oper)) (v := .agg VS) rfl (by kernel_rfl) (by kernel_rfl) (by kernel_rfl) (fun _ _ _ h => h) (Or.inl ⟨by rfl, ?_⟩) (by assumption) ?_
  · exact fun W hSw => S.run_load_part W _ _ _ (.tmp 2) rfl w.heap.size 0 rfl VS _ (fun j v hj => by rw [Nat.zero_add]; exact S.Row.cell hSw.1 hj) Tryd.underlying23 rfl HVE.out
  (try simp only [Act.put, List.setIfInBounds_toArray, List.set_cons_zero, List.set_cons_succ])
  refine wpAnyH_take (i := 1) (oi := ({ dst := some 6, op := Op.load 24 (Operand.tmp 3), type := 24, pos := "law.go:20", after := #[], guard := none } : Oper)) (v := .agg LB.toArray) rfl (by kernel_rfl) (by kernel_rfl) (by kernel_rfl) (fun _ _ _ h => h) (Or.inl ⟨by rfl, ?_⟩) (by assumption) ?_
  · exact fun W hSw => S.run_load_part W _ _ _ (.tmp 3) rfl (w.heap.size + 1) 0 rfl LB.toArray _ (fun j v hj => by rw [Nat.zero_add]; exact S.Row.cell hSw.2 hj) Tryd.underlying24 rfl HI.out
  (try simp only [Act.put, List.setIfInBounds_toArray, List.set_cons_zero, List.set_cons_succ])
  refine wpAnyH_take (i := 3) (oi := ({ dst := some 8, op := Op.load 23 (Operand.tmp 2), type := 23, pos := "law.go:20", after := #[], guard := none } : Oper)) (v := .agg VS) rfl (by kernel_rfl) (by kernel_rfl) (by kernel_rfl) (fun _ _ _ h => h) (Or.inl ⟨by rfl, ?_⟩) (by assumption) ?_
  · exact fun W hSw => S.run_load_part W _ _ _ (.tmp 2) rfl w.heap.size 0 rfl VS _ (fun j v hj => by rw [Nat.zero_add]; exact S.Row.cell hSw.1 hj) Tryd.underlying23 rfl HVE.out
  (try simp only [Act.put, List.setIfInBounds_toArray, List.set_cons_zero, List.set_cons_succ])
  refine wpAnyH_take (i := 4) (oi := ({ dst := some 9, op := Op.load 24 (Operand.tmp 3), type := 24, pos := "law.go:20", after := #[], guard := none } : Oper)) (v := .agg LB.toArray) rfl (by kernel_rfl) (by kernel_rfl) (by kernel_rfl) (fun _ _ _ h => h) (Or.inl ⟨by rfl, ?_⟩) (by assumption) ?_
  · exact fun W hSw => S.run_load_part W _ _ _ (.tmp 3) rfl (w.heap.size + 1) 0 rfl LB.toArray _ (fun j v hj => by rw [Nat.zero_add]; exact S.Row.cell hSw.2 hj) Tryd.underlying24 rfl HI.out
  (try simp only [Act.put, List.setIfInBounds_toArray, List.set_cons_zero, List.set_cons_succ])
  refine wpAnyH_ready (rs := [2]) (by kernel_rfl) (by simp) ?_
  refine AllReadyH.cons (o := ({ dst := some 7, op := Op.call { callee := Callee.value (Operand.func 12), args := #[Operand.tmp 5, Operand.tmp 6], argTypes := #[23, 24] }, type := 23, pos := "law.go:20", after := #[{ on := 0, ground := Ground.data }, { on := 1, ground := Ground.data }], guard := none } : Oper)) rfl (fun K hK => ?_) AllReadyH.nil
  go_simp
  refine (HB.out _ (HK.out.below hb0.drew (by omega))).mono ?_
  rintro e w1 ⟨rfl, hc1⟩
  have hc1 : Below w0.heap.size w0 w1 := (Below.refl _ w0).drew.trans hc1
  have hrowS1 : S.Row w1 w.heap.size 23 VS.toList := hrowS0.below hc1 hrowS0.lt
  have hrowB1 : S.Row w1 (w.heap.size + 1) 24 LB := hrowB0.below hc1 hrowB0.lt
  have hb1 := hb0.trans (hc1.mono hb0.size)
  refine hK.out _ _ ⟨hrowS1, hrowB1⟩ (fun _ => ?_)
  clear hK K hc1 hrowS0 hrowB0
  (try simp only [Act.put, List.setIfInBounds_toArray, List.set_cons_zero, List.set_cons_succ])
  refine wpAnyH_ready (rs := [5]) (by kernel_rfl) (by simp) ?_
  refine AllReadyH.cons (o := ({ dst := some 10, op := Op.call { callee := Callee.value (Operand.func 13), args := #[Operand.tmp 8, Operand.tmp 9], argTypes := #[23, 24] }, type := 23, pos := "law.go:20", after := #[{ on := 3, ground := Ground.data }, { on := 4, ground := Ground.data }, { on := 2, ground := Ground.chain }], guard := none } : Oper)) rfl (fun K hK => ?_) AllReadyH.nil
  go_simp
  refine (HR.out _).mono ?_
  rintro e w2 ⟨rfl, hc2⟩
  have hrowS2 : S.Row w2 w.heap.size 23 VS.toList := hrowS1.below hc2 hrowS1.lt
  have hrowB2 : S.Row w2 (w.heap.size + 1) 24 LB := hrowB1.below hc2 hrowB1.lt
  have hb2 := hb1.trans (hc2.mono hb1.size)
  refine hK.out _ _ ⟨hrowS2, hrowB2⟩ (fun _ => ?_)
  clear hK K hc2 hrowS1 hrowB1
  (try simp only [Act.put, List.setIfInBounds_toArray, List.set_cons_zero, List.set_cons_succ])
  refine wpAnyH_take (i := 6) (oi := ({ dst := some 11, op := Op.binOp BinOp.eql 23 (Operand.tmp 7) (Operand.tmp 10) 23, type := 4, pos := "law.go:20", after := #[{ on := 2, ground := Ground.data }, { on := 5, ground := Ground.data }], guard := none } : Oper)) (v := ?_) rfl (by kernel_rfl) (by kernel_rfl) (by kernel_rfl) (fun _ _ _ h => h) (Or.inl ⟨by rfl, ?_⟩) (by assumption) ?_
  rotate_left 1
  · intro w hSw
    (try dsimp only at hSw)
    go_simp
    (try with_reducible rfl)
  (try simp only [Act.put, List.setIfInBounds_toArray, List.set_cons_zero, List.set_cons_succ])
  refine wpAnyH_take (i := 7) (oi := ({ dst := some 12, op := Op.move (Operand.tmp 11), type := 4, pos := "law.go:20", after := #[{ on := 6, ground := Ground.data }, { on := 5, ground := Ground.chain }], guard := none } : Oper)) (v := ?_) rfl (by kernel_rfl) (by kernel_rfl) (by kernel_rfl) (fun _ _ _ h => h) (Or.inl ⟨by rfl, ?_⟩) (by assumption) ?_
  rotate_left 1
  · intro w hSw
    (try dsimp only at hSw)
    go_simp
    (try with_reducible rfl)
  (try simp only [Act.put, List.setIfInBounds_toArray, List.set_cons_zero, List.set_cons_succ])
  refine wpAnyH_ready (rs := [8]) (by kernel_rfl) (by simp) ?_
  refine AllReadyH.cons (o := ({ dst := some 13, op := Op.call { callee := Callee.value (Operand.func 14), args := #[], argTypes := #[] }, type := 26, pos := "law.go:20", after := #[{ on := 7, ground := Ground.chain }, { on := 7, ground := Ground.guard }], guard := some (7, true) } : Oper)) rfl (fun K hK => ?_) AllReadyH.nil
  go_simp
  refine (HC1.out _ (HK.out.below hb2 (by omega))).mono ?_
  rintro e w3 ⟨rfl, hc3⟩
  have hrowS3 : S.Row w3 w.heap.size 23 VS.toList := hrowS2.below hc3 hrowS2.lt
  have hrowB3 : S.Row w3 (w.heap.size + 1) 24 LB := hrowB2.below hc3 hrowB2.lt
  have hb3 := hb2.trans (hc3.mono hb2.size)
  refine hK.out _ _ ⟨hrowS3, hrowB3⟩ (fun _ => ?_)
  clear hK K hc3 hrowS2 hrowB2
  (try simp only [Act.put, List.setIfInBounds_toArray, List.set_cons_zero, List.set_cons_succ])
  refine wpAnyH_ready (rs := [9]) (by kernel_rfl) (by simp) ?_
  refine AllReadyH.cons (o := ({ dst := some 14, op := Op.call { callee := Callee.value (Operand.func 15), args := #[], argTypes := #[] }, type := 26, pos := "law.go:20", after := #[{ on := 8, ground := Ground.chain }, { on := 7, ground := Ground.guard }], guard := some (7, true) } : Oper)) rfl (fun K hK => ?_) AllReadyH.nil
  go_simp
  refine (HC2.out _).mono ?_
  rintro e w4 ⟨rfl, hc4⟩
  have hrowS4 : S.Row w4 w.heap.size 23 VS.toList := hrowS3.below hc4 hrowS3.lt
  have hrowB4 : S.Row w4 (w.heap.size + 1) 24 LB := hrowB3.below hc4 hrowB3.lt
  have hb4 := hb3.trans (hc4.mono hb3.size)
  refine hK.out _ _ ⟨hrowS4, hrowB4⟩ (fun _ => ?_)
  clear hK K hc4 hrowS3 hrowB3
  (try simp only [Act.put, List.setIfInBounds_toArray, List.set_cons_zero, List.set_cons_succ])
  refine wpAnyH_take (i := 10) (oi := ({ dst := some 15, op := Op.binOp BinOp.eql 26 (Operand.tmp 13) (Operand.tmp 14) 26, type := 4, pos := "law.go:20", after := #[{ on := 8, ground := Ground.data }, { on := 9, ground := Ground.data }, { on := 7, ground := Ground.guard }], guard := some (7, true) } : Oper)) (v := ?_) rfl (by kernel_rfl) (by kernel_rfl) (by kernel_rfl) (fun _ _ _ h => h) (Or.inl ⟨by rfl, ?_⟩) (by assumption) ?_
  rotate_left 1
  · intro w hSw
    (try dsimp only at hSw)
    go_simp
    (try with_reducible rfl)
  (try simp only [Act.put, List.setIfInBounds_toArray, List.set_cons_zero, List.set_cons_succ])
  refine wpAnyH_take (i := 11) (oi := ({ dst := some 16, op := Op.pick (Operand.tmp 12) (Operand.tmp 15) (Operand.const (Value.bool false)), type := 4, pos := "law.go:20", after := #[{ on := 7, ground := Ground.data }, { on := 10, ground := Ground.data }], guard := none } : Oper)) (v := ?_) rfl (by kernel_rfl) (by kernel_rfl) (by kernel_rfl) (fun _ _ _ h => h) (Or.inl ⟨by rfl, ?_⟩) (by assumption) ?_
  rotate_left 1
  · intro w hSw
    (try dsimp only at hSw)
    go_simp
    (try with_reducible rfl)
  (try simp only [Act.put, List.setIfInBounds_toArray, List.set_cons_zero, List.set_cons_succ])
  refine wpAnyH_take (i := 12) (oi := ({ dst := some 17, op := Op.move (Operand.tmp 16), type := 4, pos := "law.go:20", after := #[{ on := 11, ground := Ground.data }, { on := 9, ground := Ground.chain }], guard := none } : Oper)) (v := ?_) rfl (by kernel_rfl) (by kernel_rfl) (by kernel_rfl) (fun _ _ _ h => h) (Or.inl ⟨by rfl, ?_⟩) (by assumption) ?_
  rotate_left 1
  · intro w hSw
    (try dsimp only at hSw)
    go_simp
    (try with_reducible rfl)
  (try simp only [Act.put, List.setIfInBounds_toArray, List.set_cons_zero, List.set_cons_succ])
  refine wpAnyH_ready (rs := [13]) (by kernel_rfl) (by simp) ?_
  refine AllReadyH.cons (o := ({ dst := some 18, op := Op.call { callee := Callee.value (Operand.func 16), args := #[], argTypes := #[] }, type := 23, pos := "law.go:20", after := #[{ on := 12, ground := Ground.chain }, { on := 12, ground := Ground.guard }], guard := some (12, true) } : Oper)) rfl (fun K hK => ?_) AllReadyH.nil
  go_simp
  refine (HS1.out _ (HK.out.below hb4 (by omega))).mono ?_
  rintro e w5 ⟨rfl, hc5⟩
  have hrowS5 : S.Row w5 w.heap.size 23 VS.toList := hrowS4.below hc5 hrowS4.lt
  have hrowB5 : S.Row w5 (w.heap.size + 1) 24 LB := hrowB4.below hc5 hrowB4.lt
  have hb5 := hb4.trans (hc5.mono hb4.size)
  refine hK.out _ _ ⟨hrowS5, hrowB5⟩ (fun _ => ?_)
  clear hK K hc5 hrowS4 hrowB4
  (try simp only [Act.put, List.setIfInBounds_toArray, List.set_cons_zero, List.set_cons_succ])
  refine wpAnyH_ready (rs := [14]) (by kernel_rfl) (by simp) ?_
  refine AllReadyH.cons (o := ({ dst := some 19, op := Op.call { callee := Callee.value (Operand.func 17), args := #[], argTypes := #[] }, type := 23, pos := "law.go:20", after := #[{ on := 13, ground := Ground.chain }, { on := 12, ground := Ground.guard }], guard := some (12, true) } : Oper)) rfl (fun K hK => ?_) AllReadyH.nil
  go_simp
  refine (HS2.out _).mono ?_
  rintro e w6 ⟨rfl, hc6⟩
  have hrowS6 : S.Row w6 w.heap.size 23 VS.toList := hrowS5.below hc6 hrowS5.lt
  have hrowB6 : S.Row w6 (w.heap.size + 1) 24 LB := hrowB5.below hc6 hrowB5.lt
  have hb6 := hb5.trans (hc6.mono hb5.size)
  refine hK.out _ _ ⟨hrowS6, hrowB6⟩ (fun _ => ?_)
  clear hK K hc6 hrowS5 hrowB5
  (try simp only [Act.put, List.setIfInBounds_toArray, List.set_cons_zero, List.set_cons_succ])
  refine wpAnyH_take (i := 15) (oi := ({ dst := some 20, op := Op.binOp BinOp.eql 23 (Operand.tmp 18) (Operand.tmp 19) 23, type := 4, pos := "law.go:20", after := #[{ on := 13, ground := Ground.data }, { on := 14, ground := Ground.data }, { on := 12, ground := Ground.guard }], guard := some (12, true) } : Oper)) (v := ?_) rfl (by kernel_rfl) (by kernel_rfl) (by kernel_rfl) (fun _ _ _ h => h) (Or.inl ⟨by rfl, ?_⟩) (by assumption) ?_
  rotate_left 1
  · intro w hSw
    (try dsimp only at hSw)
    go_simp
    (try with_reducible rfl)
  (try simp only [Act.put, List.setIfInBounds_toArray, List.set_cons_zero, List.set_cons_succ])
  refine wpAnyH_take (i := 16) (oi := ({ dst := some 21, op := Op.pick (Operand.tmp 17) (Operand.tmp 20) (Operand.const (Value.bool false)), type := 4, pos := "law.go:20", after := #[{ on := 12, ground := Ground.data }, { on := 15, ground := Ground.data }], guard := none } : Oper)) (v := ?_) rfl (by kernel_rfl) (by kernel_rfl) (by kernel_rfl) (fun _ _ _ h => h) (Or.inl ⟨by rfl, ?_⟩) (by assumption) ?_
  rotate_left 1
  · intro w hSw
    (try dsimp only at hSw)
    go_simp
    (try with_reducible rfl)
  (try simp only [Act.put, List.setIfInBounds_toArray, List.set_cons_zero, List.set_cons_succ])
  refine wpAnyH_take (i := 17) (oi := ({ dst := some 22, op := Op.move (Operand.tmp 21), type := 4, pos := "law.go:20", after := #[{ on := 16, ground := Ground.data }, { on := 14, ground := Ground.chain }], guard := none } : Oper)) (v := ?_) rfl (by kernel_rfl) (by kernel_rfl) (by kernel_rfl) (fun _ _ _ h => h) (Or.inl ⟨by rfl, ?_⟩) (by assumption) ?_
  rotate_left 1
  · intro w hSw
    (try dsimp only at hSw)
    go_simp
    (try with_reducible rfl)
  (try simp only [Act.put, List.setIfInBounds_toArray, List.set_cons_zero, List.set_cons_succ])
  refine wpAnyH_ready (rs := [18]) (by kernel_rfl) (by simp) ?_
  refine AllReadyH.cons (o := ({ dst := some 23, op := Op.call { callee := Callee.value (Operand.func 18), args := #[], argTypes := #[] }, type := 4, pos := "law.go:20", after := #[{ on := 17, ground := Ground.chain }, { on := 17, ground := Ground.guard }], guard := some (17, true) } : Oper)) rfl (fun K hK => ?_) AllReadyH.nil
  go_simp
  refine (shown_any _ (HK.out.below hb6 (by omega))).mono ?_
  rintro e w7 ⟨rfl, hc7⟩
  have hrowS7 : S.Row w7 w.heap.size 23 VS.toList := hrowS6.below hc7 hrowS6.lt
  have hrowB7 : S.Row w7 (w.heap.size + 1) 24 LB := hrowB6.below hc7 hrowB6.lt
  have hb7 := hb6.trans (hc7.mono hb6.size)
  refine hK.out _ _ ⟨hrowS7, hrowB7⟩ (fun _ => ?_)
  clear hK K hc7 hrowS6 hrowB6
  (try simp only [Act.put, List.setIfInBounds_toArray, List.set_cons_zero, List.set_cons_succ])
  clear hHeld
  refine wpAnyH_take (i := 19) (oi := ({ dst := some 24, op := Op.pick (Operand.tmp 22) (Operand.tmp 23) (Operand.const (Value.bool false)), type := 4, pos := "law.go:20", after := #[{ on := 17, ground := Ground.data }, { on := 18, ground := Ground.data }], guard := none } : Oper)) (v := ?_) rfl (by kernel_rfl) (by kernel_rfl) (by kernel_rfl) (fun _ _ _ h => h) (Or.inl ⟨by rfl, ?_⟩) (by assumption) ?_
  rotate_left 1
  · intro w hSw
    (try dsimp only at hSw)
    go_simp
    (try with_reducible rfl)
  (try simp only [Act.put, List.setIfInBounds_toArray, List.set_cons_zero, List.set_cons_succ])
  refine wpAnyH_take (i := 20) (oi := ({ dst := some 4, op := Op.assign (Operand.tmp 24), type := 4, pos := "law.go:20", after := #[{ on := 19, ground := Ground.data }, { on := 18, ground := Ground.chain }, { on := 0, ground := Ground.phase }, { on := 1, ground := Ground.phase }, { on := 2, ground := Ground.phase }, { on := 3, ground := Ground.phase }, { on := 4, ground := Ground.phase }, { on := 5, ground := Ground.phase }, { on := 6, ground := Ground.phase }, { on := 7, ground := Ground.phase }, { on := 8, ground := Ground.phase }, { on := 9, ground := Ground.phase }, { on := 10, ground := Ground.phase }, { on := 11, ground := Ground.phase }, { on := 12, ground := Ground.phase }, { on := 13, ground := Ground.phase }, { on := 14, ground := Ground.phase }, { on := 15, ground := Ground.phase }, { on := 16, ground := Ground.phase }, { on := 17, ground := Ground.phase }, { on := 18, ground := Ground.phase }, { on := 19, ground := Ground.phase }], guard := none } : Oper)) (v := ?_) rfl (by kernel_rfl) (by kernel_rfl) (by kernel_rfl) (fun _ _ _ h => h) (Or.inl ⟨by rfl, ?_⟩) (by assumption) ?_
  rotate_left 1
  · intro w hSw
    (try dsimp only at hSw)
    go_simp
    (try with_reducible rfl)
  (try simp only [Act.put, List.setIfInBounds_toArray, List.set_cons_zero, List.set_cons_succ])
  refine wpAnyH_done (by kernel_rfl) ?_ _
  refine NoPanic.normal ?_
  go_wp2_with fail
  go_ret
  exact ⟨rfl, hb7⟩
end Go.Proofs.YtohdlgifggfifaaDoor
