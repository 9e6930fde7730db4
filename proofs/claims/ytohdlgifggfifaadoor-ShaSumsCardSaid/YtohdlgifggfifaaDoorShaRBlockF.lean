/- The contract of the reference's Block. -/
import Derived.Test.YtohdlgifggfifaaDoorShaRConst
namespace Go.Proofs.YtohdlgifggfifaaDoor
open Go.RowKit
theorem S.splice_all8 {V : Array Value} (h : V.size = 8) : splice (List.replicate 8 (S.wordV 0)) 0 V.toList = V.toList := by simp [splice, h]
set_option linter.unusedSimpArgs false in
set_option maxRecDepth 100000 in
set_option maxHeartbeats 2000000 in
theorem RBlock_any (s : S.St) (hs : s.ok) (l : List UInt8) (hl : l.length = 64) (w : World) :
    Calls Tryd.prog 13 #[.agg (S.vals s), .agg (l.map S.byteV).toArray] w fun e w' => e = .returned (.agg (S.vals (S.block s l))) ∧ Below w.heap.size w w' := by
  have HB := fun w => rblock_any s hs l hl w
  have HI := Lib.hid (show (Tryd.prog.info? 24).map (·.size) = some (l.map S.byteV).toArray.size by rw [S.info_bytes]; simp [hl])
  have HV1 := Lib.hid (S.vals_one (S.block s l))
  have HV8 := Lib.hid (S.info_vals (S.block s l))
  have HVs := Lib.hid (show (S.vals (S.block s l)).size = 8 from rfl)
  obtain ⟨V, HV⟩ : ∃ V, Hid (V = S.vals (S.block s l)) := ⟨_, Lib.hid rfl⟩
  rw [← HV.out] at HB HV1 HV8 HVs ⊢
  clear hl hs
  obtain ⟨VS, HVS⟩ : ∃ VS, Hid (VS = S.vals s) := ⟨_, Lib.hid rfl⟩
  have HVSE := Lib.hid (show (Tryd.prog.info? 23).map (·.size) = some VS.size by rw [HVS.out]; exact S.info_vals s)
  rw [← HVS.out] at HB ⊢
  obtain ⟨KV, HKV⟩ : ∃ KV, Hid (KV = (S.K.map S.wordV).toArray) := ⟨_, Lib.hid rfl⟩
  have HK := fun w => RConstants_any w
  rw [← HKV.out] at HB HK
  obtain ⟨LB, HLB⟩ : ∃ LB, Hid (LB = l.map S.byteV) := ⟨_, Lib.hid rfl⟩
  rw [← HLB.out] at HB HI ⊢
  replace HB := Lib.hid HB
  replace HK := Lib.hid HK
  go_enter Tryd.func13, Tryd.ntmps13
  go_wp2_with fail
  generalize hwx : ((w.alloc _).alloc _).alloc _ = wx
  have hrowS : S.Row wx w.heap.size 23 VS.toList := by rw [← hwx]; exact (((S.Row.new w _ _).alloc _).alloc _)
  have hrowB : S.Row wx (w.heap.size + 1) 24 LB := by rw [← hwx]; exact ((S.Row.made _ _ _ (by simp) rfl).alloc _)
  have hrowR : S.Row wx (w.heap.size + 1 + 1) 23 (List.replicate 8 (S.wordV 0)) := by rw [← hwx]; exact S.Row.made _ _ _ (by simp) rfl
  have hb0 : Below w.heap.size w wx := by rw [← hwx]; exact ((((Below.refl _ w).alloc (Nat.le_refl _) _).alloc (by simp) _).alloc (by simp; omega) _)
  clear hwx
  refine wp_region_noPanic ?_
  refine wp_region_held_drew (S := fun W => S.Row W w.heap.size 23 VS.toList ∧ S.Row W (w.heap.size + 1) 24 LB) (by kernel_rfl) ⟨hrowS, hrowB⟩ (fun hHeld => ?_)
  refine wpAnyH_take (i := 1) (oi := ({ dst := some 6, op := Op.load 23 (Operand.tmp 2), type := 23, pos := "ref.go:89", after := #[], guard := none } : Oper)) (v := .agg VS) rfl (by kernel_rfl) (by kernel_rfl) (by kernel_rfl) (fun _ _ _ h => h) (Or.inl ⟨by rfl, ?_⟩) (by assumption) ?_
  · exact fun W hSw => S.run_load_part W _ _ _ (.tmp 2) rfl w.heap.size 0 rfl VS _ (fun j v hj => by rw [Nat.zero_add]; exact S.Row.cell hSw.1 hj) Tryd.underlying23 rfl HVSE.out
  (try simp only [Act.put, List.setIfInBounds_toArray, List.set_cons_zero, List.set_cons_succ])
  refine wpAnyH_take (i := 2) (oi := ({ dst := some 7, op := Op.load 24 (Operand.tmp 3), type := 24, pos := "ref.go:89", after := #[], guard := none } : Oper)) (v := .agg LB.toArray) rfl (by kernel_rfl) (by kernel_rfl) (by kernel_rfl) (fun _ _ _ h => h) (Or.inl ⟨by rfl, ?_⟩) (by assumption) ?_
  · exact fun W hSw => S.run_load_part W _ _ _ (.tmp 3) rfl (w.heap.size + 1) 0 rfl LB.toArray _ (fun j v hj => by rw [Nat.zero_add]; exact S.Row.cell hSw.2 hj) Tryd.underlying24 rfl HI.out
  (try simp only [Act.put, List.setIfInBounds_toArray, List.set_cons_zero, List.set_cons_succ])
  refine wpAnyH_ready (rs := [0]) (by kernel_rfl) (by simp) ?_
  refine AllReadyH.cons (o := ({ dst := some 5, op := Op.call { callee := Callee.value (Operand.func 15), args := #[], argTypes := #[] }, type := 26, pos := "ref.go:89", after := #[], guard := none } : Oper)) rfl (fun K hK => ?_) AllReadyH.nil
  go_simp
  refine (HK.out _).mono ?_
  rintro e w1 ⟨rfl, hb1⟩
  have hb1 : Below wx.heap.size wx w1 := (Below.refl _ wx).drew.trans hb1
  have hrowS1 : S.Row w1 w.heap.size 23 VS.toList := hrowS.below hb1 hrowS.lt
  have hrowB1 : S.Row w1 (w.heap.size + 1) 24 LB := hrowB.below hb1 hrowB.lt
  have hrowR1 := hrowR.below hb1 hrowR.lt
  have hb01 := hb0.trans (hb1.mono hb0.size)
  refine hK.out _ _ ⟨hrowS1, hrowB1⟩ (fun _ => ?_)
  clear hK K
  (try simp only [Act.put, List.setIfInBounds_toArray, List.set_cons_zero, List.set_cons_succ])
  refine wpAnyH_ready (rs := [3]) (by kernel_rfl) (by simp) ?_
  refine AllReadyH.cons (o := ({ dst := some 8, op := Op.call { callee := Callee.value (Operand.func 38), args := #[Operand.tmp 5, Operand.tmp 6, Operand.tmp 7], argTypes := #[26, 23, 24] }, type := 23, pos := "ref.go:89", after := #[{ on := 0, ground := Ground.data }, { on := 1, ground := Ground.data }, { on := 2, ground := Ground.data }, { on := 0, ground := Ground.chain }], guard := none } : Oper)) rfl (fun K hK => ?_) AllReadyH.nil
  go_simp
  refine (HB.out _).mono ?_
  rintro e w2 ⟨rfl, hb2⟩
  have hrowS2 : S.Row w2 w.heap.size 23 VS.toList := hrowS1.below hb2 hrowS1.lt
  have hrowB2 : S.Row w2 (w.heap.size + 1) 24 LB := hrowB1.below hb2 hrowB1.lt
  have hrowR2 := hrowR1.below hb2 hrowR1.lt
  have hb02 := hb01.trans (hb2.mono hb01.size)
  refine hK.out _ _ ⟨hrowS2, hrowB2⟩ (fun _ => ?_)
  clear hK K hHeld
  (try simp only [Act.put, List.setIfInBounds_toArray, List.set_cons_zero, List.set_cons_succ])
  refine wpAnyH_ready (rs := [4]) (by kernel_rfl) (by simp) ?_
  refine AllReadyH.cons (o := ({ dst := none, op := Op.store 23 (Operand.tmp 4) (Operand.tmp 8), type := 0, pos := "ref.go:89", after := #[{ on := 3, ground := Ground.data }, { on := 3, ground := Ground.chain }, { on := 0, ground := Ground.phase }, { on := 1, ground := Ground.phase }, { on := 2, ground := Ground.phase }, { on := 3, ground := Ground.phase }], guard := none } : Oper)) rfl (fun K hK => ?_) AllReadyH.nil
  refine S.step_store_part rfl _ (.tmp 4) (.tmp 8) rfl (w.heap.size + 1 + 1) 0 V rfl rfl _ _ hrowR2 HV8.out (by rw [HVs.out]; simp) HV1.out ?_
  intro w5 hrow5 hbut5
  have hrowS5 := hbut5.row hrowS2 (by omega)
  have hrowB5 := hbut5.row hrowB2 (by omega)
  have hb5 := hb02.trans (hbut5.below (C := w.heap.size) (by omega) hb02.size)
  refine hK.out _ _ ⟨hrowS5, hrowB5⟩ (fun _ => ?_)
  clear hK K
  (try simp only [Act.put, List.setIfInBounds_toArray, List.set_cons_zero, List.set_cons_succ])
  refine wpAnyH_done (by kernel_rfl) ?_ _
  refine NoPanic.normal ?_
  go_wp2_with fail
  have hfin : S.Row w5 (w.heap.size + 1 + 1) 23 V.toList := by rw [S.splice_all8 HVs.out] at hrow5; exact hrow5
  exact bodyPost_ret (v := .agg V) (results_cell_row Tryd.results13 _ _ (w.heap.size + 1 + 1) _ _ _ _ rfl hfin Tryd.underlying23 rfl HV8.out) rfl ⟨rfl, hb5⟩
end Go.Proofs.YtohdlgifggfifaaDoor
