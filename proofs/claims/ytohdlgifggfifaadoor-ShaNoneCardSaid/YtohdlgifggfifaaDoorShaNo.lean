/- Methods of what is no hash; the walk of ShaNone. -/
import Derived.Test.YtohdlgifggfifaaDoorShaEq
namespace Go.Proofs.YtohdlgifggfifaaDoor
open Go.RowKit
namespace S
/-- A pointer that is nil, or to cells that no hash was made in. -/
structure IsNo (w : World) (v : Value) : Prop where
  no : v = .pointer none ∨ ∃ B, v = .pointer (some ⟨B, 0, none⟩) ∧ w.cell? ⟨B, 0, none⟩ = some (.pointer none)
theorem IsNo.below {w w' : World} {v : Value} (h : IsNo w v) (hb : Below w.heap.size w w') : IsNo w' v := by
  rcases h.no with h | ⟨B, h, hc⟩
  · exact ⟨.inl h⟩
  · exact ⟨.inr ⟨B, h, (hb.cell (block_lt_of_cell hc)).trans hc⟩⟩
def zeroD : Array Value := ((List.replicate 32 (0 : UInt8)).map byteV).toArray
end S
theorem isMade_false (v : Value) (w : World) (h : S.IsNo w v) :
    Calls Tryd.prog 45 #[v] w fun e w' => e = .returned (.bool false) ∧ w = w' := by
  rcases h.no with rfl | ⟨B, rfl, hc⟩
  · exact isMade_nil w
  · exact isMade_no B w hc
set_option maxHeartbeats 400000 in
theorem Write_no (v b : Value) (w : World) (h : S.IsNo w v) :
    Calls Tryd.prog 28 #[v, b] w fun e w' => e = .returned (.int .i64 1) ∧ w = w' := by
  go_enter Tryd.func28, Tryd.ntmps28
  go_wp2_with fail
  refine (isMade_false v _ h).mono ?_
  rintro e w' ⟨rfl, rfl⟩
  go_wp2_with fail
  go_ret
  exact ⟨rfl, rfl⟩
set_option maxHeartbeats 400000 in
theorem Reset_no (v : Value) (w : World) (h : S.IsNo w v) :
    Calls Tryd.prog 31 #[v] w fun e w' => e = .returned (.int .i64 1) ∧ w = w' := by
  go_enter Tryd.func31, Tryd.ntmps31
  go_wp2_with fail
  refine (isMade_false v _ h).mono ?_
  rintro e w' ⟨rfl, rfl⟩
  go_wp2_with fail
  go_ret
  exact ⟨rfl, rfl⟩
set_option maxHeartbeats 400000 in
theorem Len_no (v : Value) (w : World) (h : S.IsNo w v) :
    Calls Tryd.prog 30 #[v] w fun e w' => e = .returned (.tuple #[.int .i64 0, .int .i64 1]) ∧ w = w' := by
  go_enter Tryd.func30, Tryd.ntmps30
  go_wp2_with fail
  refine (isMade_false v _ h).mono ?_
  rintro e w' ⟨rfl, rfl⟩
  go_wp2_with fail
  go_ret2
  exact ⟨rfl, rfl⟩
set_option maxHeartbeats 400000 in
theorem Copy_no (v : Value) (w : World) (h : S.IsNo w v) :
    Calls Tryd.prog 32 #[v] w fun e w' => e = .returned (.tuple #[.pointer none, .int .i64 1]) ∧ w = w' := by
  go_enter Tryd.func32, Tryd.ntmps32
  go_wp2_with fail
  refine (isMade_false v _ h).mono ?_
  rintro e w' ⟨rfl, rfl⟩
  go_wp2_with fail
  go_ret2
  exact ⟨rfl, rfl⟩
set_option maxRecDepth 100000 in
set_option maxHeartbeats 1000000 in
theorem HSum_no (v : Value) (w : World) (h : S.IsNo w v) :
    Calls Tryd.prog 29 #[v] w fun e w' => e = .returned (.tuple #[.agg S.zeroD, .int .i64 1]) ∧ Below w.heap.size w w' := by
  have hb0 : ∀ o, Below w.heap.size w (w.alloc o) := fun o => (Below.refl _ _).alloc (Nat.le_refl _) o
  have HN := Lib.hid (fun o => h.below (hb0 o))
  clear h
  go_enter Tryd.func29, Tryd.ntmps29
  go_wp2_with fail
  refine (isMade_false v _ (HN.out _)).mono ?_
  rintro e w' ⟨rfl, rfl⟩
  go_wp2_with (refine S.wpList_store_but rfl 32 (.tmp 2) (.tmp 7) rfl w.heap.size ((List.replicate 32 (0 : UInt8)).map S.byteV) rfl rfl _ _ (S.Row.made _ _ _ rfl rfl) S.info_d32 rfl (S.bvals_one _) ?_; intro w9 hr9 hbut9)
  exact bodyPost_ret (v := .tuple #[.agg S.zeroD, .int .i64 1]) (S.results_cell_two Tryd.results29 _ _ w.heap.size _ _ _ _ _ rfl rfl hr9 Tryd.underlying32 rfl S.info_d32) rfl ⟨rfl, (hb0 _).trans (hbut9.below (Nat.le_refl _) (by simp))⟩
theorem S.wpList_load_guard {P : Program} {ops : Array Oper} {rest : List Oper} {o : Oper} {a : Act} {w : World} {Q : Exit → Act → World → Prop} (hw : Region.wanted o (yielded ops a.tmps) = true) (ty : TypeId) (x : Operand) (ho : o.op = .load ty x)
    (g : Nat) (hx : a.eval x = .pointer (some ⟨g, 0, none⟩)) (t : TypeId) (cs : Array Value) (fr : Nat × Nat) (d : TypeDesc) (hg : w.heap[g]? = some (.cells cs t fr))
    (hu : P.underlying ty = some d) (hd : (match d with | .struct _ | .array _ _ => true | _ => false) = true) (hi : (P.info? ty).map (·.size) = some cs.size)
    (h : wpList P ops Q rest (a.put o.dst (.agg cs)) w) : wpList P ops Q (o :: rest) a w := by
  unfold wpList
  rw [if_pos hw]
  exact .inl (wp_load_row ty x ho g hx t cs fr d hg hu hd hi h)
theorem S.zeroCells_head : Tryd.zeroCells70[0]? = some (.pointer none) := by kernel_rfl
theorem S.zero_same (W : World) : (Op.equalIn 10000 32 (.agg S.zeroD) (.agg #[.int .u8 0, .int .u8 0, .int .u8 0, .int .u8 0, .int .u8 0, .int .u8 0, .int .u8 0, .int .u8 0, .int .u8 0, .int .u8 0, .int .u8 0, .int .u8 0, .int .u8 0, .int .u8 0, .int .u8 0, .int .u8 0, .int .u8 0, .int .u8 0, .int .u8 0, .int .u8 0, .int .u8 0, .int .u8 0, .int .u8 0, .int .u8 0, .int .u8 0, .int .u8 0, .int .u8 0, .int .u8 0, .int .u8 0, .int .u8 0, .int .u8 0, .int .u8 0]) ).run Tryd.prog W = .ok true W := S.eq_d32 (List.replicate 32 0) rfl W
set_option maxRecDepth 100000 in
set_option maxHeartbeats 2000000 in
theorem ShaNone_walk (A : Option Addr) (c : Nat) (l : List UInt8) (w : World) (hK : S.SLaid w) (_hl : BytesIn w w.heap.size A c l) :
    Calls Tryd.prog 10 #[.slice A l.length c] w fun e w' => e = .returned (.bool true) ∧ Below w.heap.size w w' := by
  have h2 := hK.lt.1
  have HK := Lib.hid hK
  clear hK _hl
  go_enter Tryd.func10, Tryd.ntmps10
  go_wp2_with fail
  go_loopw [3] (fun i wr => ∃ k : Nat, k ≤ 2 ∧ i = .int .i64 k ∧ Below w.heap.size w wr) (fun i _ => 2 - (intOf i).toNat)
  case atStart => exact ⟨0, by omega, rfl, Below.refl _ _⟩
  case round =>
    obtain ⟨k, hk, rfl, hbel⟩ := hrel
    have HB := Lib.hid hbel
    have heq := S.zero_same
    have hgd := S.guard_d32
    clear hbel
    obtain rfl | rfl | rfl : k = 0 ∨ k = 1 ∨ k = 2 := by omega
    · go_wp2_with fail
      have hno : S.IsNo wr (.pointer none) := ⟨.inl rfl⟩
      have HB0 := HB
      refine (HSum_no _ _ hno).mono ?_
      rintro e w1 ⟨rfl, hb1⟩
      have HB1 := Lib.hid (HB0.out.trans (hb1.mono HB0.out.size))
      have hno1 := hno.below hb1
      clear hb1 hno
      go_wp2_with (refine S.wpList_store_but rfl 32 (.tmp 5) (.tmp 22) rfl w1.heap.size ((List.replicate 32 (0 : UInt8)).map S.byteV) rfl rfl _ _ (S.Row.made _ _ _ rfl rfl) S.info_d32 rfl (S.bvals_one _) ?_; intro w2 hr2 hbut2; have HB2 := Lib.hid ((HB1.out.alloc HB1.out.size _).trans (hbut2.below (C := w.heap.size) HB1.out.size (by have := HB1.out.size; simp; omega))); have hno2 := hno1.below (((Below.refl _ _).alloc (Nat.le_refl _) _).trans (hbut2.below (C := w1.heap.size) (Nat.le_refl _) (by simp))); clear hbut2 hno1)
      refine (Len_no _ _ hno2).mono ?_
      rintro e w' ⟨rfl, rfl⟩
      go_wp2_with fail
      refine (Copy_no _ _ hno2).mono ?_
      rintro e w' ⟨rfl, rfl⟩
      go_wp2_with fail
      refine (Write_no _ _ _ hno2).mono ?_
      rintro e w' ⟨rfl, rfl⟩
      go_wp2_with fail
      refine (Reset_no _ _ hno2).mono ?_
      rintro e w' ⟨rfl, rfl⟩
      clear hno2
      go_wp2_with (refine S.wpList_load_guard rfl 32 (.tmp 5) rfl w1.heap.size rfl _ S.zeroD (0, 0) _ hr2 Tryd.underlying32 rfl S.info_d32 ?_)
      go_roundw
      case rel => first | exact ⟨1, by omega, rfl, HB2.out⟩ | ((repeat apply Exists.intro); exact ⟨⟨1, by omega, rfl, HB2.out⟩, rfl⟩)
      case measure => simp [intOf]
    · go_wp2_with fail
      have hno : S.IsNo (wr.alloc (.cells Tryd.zeroCells70 70)) (.pointer (some ⟨wr.heap.size, 0, none⟩)) := ⟨.inr ⟨_, rfl, by rw [World.cell?_alloc_new]; exact S.zeroCells_head⟩⟩
      have HB0 := Lib.hid (HB.out.alloc HB.out.size (.cells Tryd.zeroCells70 70))
      refine (HSum_no _ _ hno).mono ?_
      rintro e w1 ⟨rfl, hb1⟩
      have HB1 := Lib.hid (HB0.out.trans (hb1.mono HB0.out.size))
      have hno1 := hno.below hb1
      clear hb1 hno
      go_wp2_with (refine S.wpList_store_but rfl 32 (.tmp 5) (.tmp 22) rfl w1.heap.size ((List.replicate 32 (0 : UInt8)).map S.byteV) rfl rfl _ _ (S.Row.made _ _ _ rfl rfl) S.info_d32 rfl (S.bvals_one _) ?_; intro w2 hr2 hbut2; have HB2 := Lib.hid ((HB1.out.alloc HB1.out.size _).trans (hbut2.below (C := w.heap.size) HB1.out.size (by have := HB1.out.size; simp; omega))); have hno2 := hno1.below (((Below.refl _ _).alloc (Nat.le_refl _) _).trans (hbut2.below (C := w1.heap.size) (Nat.le_refl _) (by simp))); clear hbut2 hno1)
      refine (Len_no _ _ hno2).mono ?_
      rintro e w' ⟨rfl, rfl⟩
      go_wp2_with fail
      refine (Copy_no _ _ hno2).mono ?_
      rintro e w' ⟨rfl, rfl⟩
      go_wp2_with fail
      refine (Write_no _ _ _ hno2).mono ?_
      rintro e w' ⟨rfl, rfl⟩
      go_wp2_with fail
      refine (Reset_no _ _ hno2).mono ?_
      rintro e w' ⟨rfl, rfl⟩
      clear hno2
      go_wp2_with (refine S.wpList_load_guard rfl 32 (.tmp 5) rfl w1.heap.size rfl _ S.zeroD (0, 0) _ hr2 Tryd.underlying32 rfl S.info_d32 ?_)
      go_roundw
      case rel => first | exact ⟨2, by omega, rfl, HB2.out⟩ | ((repeat apply Exists.intro); exact ⟨⟨2, by omega, rfl, HB2.out⟩, rfl⟩)
      case measure => simp [intOf]
    · go_wp2_with fail
      refine (shown_any _ (HK.out.below HB.out (by omega))).mono ?_
      rintro e w3 ⟨rfl, hb3⟩
      have HB3 := Lib.hid (HB.out.trans (hb3.mono HB.out.size))
      clear hb3
      go_wp2_with fail
      go_ret
      exact ⟨rfl, HB3.out⟩
end Go.Proofs.YtohdlgifggfifaaDoor
