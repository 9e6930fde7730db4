/- Methods of what is no mac; the walk of HmacNone. -/
import Derived.Test.YtgpgnfdbjljljaaDoorHmShown
namespace Go.Proofs.YtgpgnfdbjljljaaDoor
open Go.RowKit
namespace M
/-- A pointer that is nil, or to cells that no mac was made in. -/
structure IsNo (w : World) (v : Value) : Prop where
  no : v = .pointer none ∨ ∃ B, v = .pointer (some ⟨B, 0, none⟩) ∧ w.cell? ⟨B, 1, none⟩ = some (.pointer none)
theorem IsNo.below {w w' : World} {v : Value} (h : IsNo w v) (hb : Below w.heap.size w w') : IsNo w' v := by
  rcases h.no with h | ⟨B, h, hc⟩
  · exact ⟨.inl h⟩
  · exact ⟨.inr ⟨B, h, (hb.cell (p := ⟨B, 1, none⟩) (block_lt_of_cell hc)).trans hc⟩⟩
def zeroD : Array Value := ((List.replicate 32 (0 : UInt8)).map S.byteV).toArray
end M
theorem MMade_false (v : Value) (w : World) (h : M.IsNo w v) :
    Calls Tryd.prog 62 #[v] w fun e w' => e = .returned (.bool false) ∧ w = w' := by
  rcases h.no with rfl | ⟨B, rfl, hc⟩
  · exact MMade_nil w
  · exact MMade_no B w hc
set_option maxHeartbeats 400000 in
theorem MWrite_no (v b : Value) (w : World) (h : M.IsNo w v) :
    Calls Tryd.prog 41 #[v, b] w fun e w' => e = .returned (.int .i64 1) ∧ w = w' := by
  go_enter Tryd.func41, Tryd.ntmps41
  go_wp2_with fail
  refine (MMade_false v _ h).mono ?_
  rintro e w' ⟨rfl, rfl⟩
  go_wp2_with fail
  go_ret
  exact ⟨rfl, rfl⟩
set_option maxHeartbeats 400000 in
theorem MReset_no (v : Value) (w : World) (h : M.IsNo w v) :
    Calls Tryd.prog 44 #[v] w fun e w' => e = .returned (.int .i64 1) ∧ w = w' := by
  go_enter Tryd.func44, Tryd.ntmps44
  go_wp2_with fail
  refine (MMade_false v _ h).mono ?_
  rintro e w' ⟨rfl, rfl⟩
  go_wp2_with fail
  go_ret
  exact ⟨rfl, rfl⟩
set_option maxRecDepth 100000 in
set_option maxHeartbeats 1000000 in
theorem MTag_no (v : Value) (w : World) (h : M.IsNo w v) :
    Calls Tryd.prog 43 #[v] w fun e w' => e = .returned (.tuple #[.agg M.zeroD, .int .i64 1]) ∧ Below w.heap.size w w' := by
  have hb0 : ∀ o, Below w.heap.size w (w.alloc o) := fun o => (Below.refl _ _).alloc (Nat.le_refl _) o
  have HN := Lib.hid (fun o => h.below (hb0 o))
  clear h
  go_enter Tryd.func43, Tryd.ntmps43
  go_wp2_with fail
  refine (MMade_false v _ (HN.out _)).mono ?_
  rintro e w' ⟨rfl, rfl⟩
  go_wp2_with (refine S.wpList_store_but rfl 22 (.tmp 2) (.tmp 9) rfl w.heap.size ((List.replicate 32 (0 : UInt8)).map S.byteV) rfl rfl _ _ (S.Row.made _ _ _ rfl rfl) S.info_d32 rfl (S.bvals_one _) ?_; intro w9 hr9 hbut9)
  exact bodyPost_ret (v := .tuple #[.agg M.zeroD, .int .i64 1]) (S.results_cell_two Tryd.results43 _ _ w.heap.size _ _ _ _ _ rfl rfl hr9 Tryd.underlying22 rfl S.info_d32) rfl ⟨rfl, (hb0 _).trans (hbut9.below (Nat.le_refl _) (by simp))⟩
set_option maxRecDepth 100000 in
set_option maxHeartbeats 1000000 in
theorem MVerify_no (v b : Value) (w : World) (h : M.IsNo w v) :
    Calls Tryd.prog 42 #[v, b] w fun e w' => e = .returned (.int .i64 1) ∧ Below w.heap.size w w' := by
  go_enter Tryd.func42, Tryd.ntmps42
  go_wp2_with fail
  refine (MTag_no v _ h).mono ?_
  rintro e w1 ⟨rfl, hb1⟩
  go_wp2_with (refine S.wpList_store_but rfl 22 (.tmp 5) (.tmp 10) rfl w1.heap.size ((List.replicate 32 (0 : UInt8)).map S.byteV) rfl rfl _ _ (S.Row.made (l := (List.replicate 32 (0 : UInt8)).map S.byteV) _ _ _ rfl rfl) S.info_d32 rfl (S.bvals_one _) ?_; intro w2 hr2 hbut2; have HB2 := Lib.hid ((hb1.alloc hb1.size (.cells (Array.replicate 32 (S.byteV 0)) 22)).trans (hbut2.below (C := w.heap.size) hb1.size (by have := hb1.size; simp; omega))); clear hbut2 hb1)
  go_ret
  exact ⟨rfl, HB2.out⟩
theorem M.zeroCells_one : Tryd.zeroCells79[1]? = some (.pointer none) := by kernel_rfl
theorem M.zero_same (W : World) : (Op.equalIn 10000 22 (.agg M.zeroD) (.agg #[.int .u8 0, .int .u8 0, .int .u8 0, .int .u8 0, .int .u8 0, .int .u8 0, .int .u8 0, .int .u8 0, .int .u8 0, .int .u8 0, .int .u8 0, .int .u8 0, .int .u8 0, .int .u8 0, .int .u8 0, .int .u8 0, .int .u8 0, .int .u8 0, .int .u8 0, .int .u8 0, .int .u8 0, .int .u8 0, .int .u8 0, .int .u8 0, .int .u8 0, .int .u8 0, .int .u8 0, .int .u8 0, .int .u8 0, .int .u8 0, .int .u8 0, .int .u8 0]) ).run Tryd.prog W = .ok true W := S.eq_d32 (List.replicate 32 0) rfl W
set_option maxRecDepth 100000 in
set_option maxHeartbeats 2000000 in
theorem HmacNone_walk (A : Option Addr) (c : Nat) (l : List UInt8) (w : World) (hK : S.SLaid w) (_hl : BytesIn w w.heap.size A c l) :
    Calls Tryd.prog 12 #[.slice A l.length c] w fun e w' => e = .returned (.bool true) ∧ Below w.heap.size w w' := by
  have h2 := hK.lt.1
  have HK := Lib.hid hK
  clear hK _hl
  go_enter Tryd.func12, Tryd.ntmps12
  go_wp2_with fail
  go_loopw [3] (fun i wr => ∃ k : Nat, k ≤ 2 ∧ i = .int .i64 k ∧ Below w.heap.size w wr) (fun i _ => 2 - (intOf i).toNat)
  case atStart => exact ⟨0, by omega, rfl, Below.refl _ _⟩
  case round =>
    obtain ⟨k, hk, rfl, hbel⟩ := hrel
    have HB := Lib.hid hbel
    have heq := M.zero_same
    have hgd := S.guard_d32
    clear hbel
    obtain rfl | rfl | rfl : k = 0 ∨ k = 1 ∨ k = 2 := by omega
    · go_wp2_with fail
      have hno : M.IsNo wr (.pointer none) := ⟨.inl rfl⟩
      have HB0 := HB
      refine (MTag_no _ _ hno).mono ?_
      rintro e w1 ⟨rfl, hb1⟩
      have HB1 := Lib.hid (HB0.out.trans (hb1.mono HB0.out.size))
      have hno1 := hno.below hb1
      clear hb1 hno
      go_wp2_with (first
        | (refine S.wpList_store_but rfl 22 (.tmp 5) (.tmp 18) rfl w1.heap.size ((List.replicate 32 (0 : UInt8)).map S.byteV) rfl rfl _ _ (S.Row.made _ _ _ rfl rfl) S.info_d32 rfl (S.bvals_one _) ?_; intro w2 hr2 hbut2; have HB2 := Lib.hid ((HB1.out.alloc HB1.out.size _).trans (hbut2.below (C := w.heap.size) HB1.out.size (by have := HB1.out.size; simp; omega))); have hno2 := hno1.below (((Below.refl _ _).alloc (Nat.le_refl _) _).trans (hbut2.below (C := w1.heap.size) (Nat.le_refl _) (by simp))); clear hbut2 hno1)
        | (refine S.wpList_load_guard rfl 22 (.tmp 5) rfl w1.heap.size rfl _ M.zeroD (0, 0) _ hr2 Tryd.underlying22 rfl S.info_d32 ?_))
      refine (MWrite_no _ _ _ hno2).mono ?_
      rintro e w' ⟨rfl, rfl⟩
      go_wp2_with fail
      refine (MVerify_no _ _ _ hno2).mono ?_
      rintro e w3 ⟨rfl, hb3⟩
      have HB3 := Lib.hid (HB2.out.trans (hb3.mono HB2.out.size))
      have hno3 := hno2.below hb3
      clear hb3 hno2
      go_wp2_with fail
      refine (MReset_no _ _ hno3).mono ?_
      rintro e w' ⟨rfl, rfl⟩
      clear hno3
      go_wp2_with fail
      go_roundw
      case rel => first | exact ⟨1, by omega, rfl, HB3.out⟩ | ((repeat apply Exists.intro); exact ⟨⟨1, by omega, rfl, HB3.out⟩, rfl⟩)
      case measure => simp [intOf]
    · go_wp2_with fail
      have hno : M.IsNo (wr.alloc (.cells Tryd.zeroCells79 79)) (.pointer (some ⟨wr.heap.size, 0, none⟩)) := ⟨.inr ⟨_, rfl, by rw [World.cell?_alloc_new]; exact M.zeroCells_one⟩⟩
      have HB0 := Lib.hid (HB.out.alloc HB.out.size (.cells Tryd.zeroCells79 79))
      refine (MTag_no _ _ hno).mono ?_
      rintro e w1 ⟨rfl, hb1⟩
      have HB1 := Lib.hid (HB0.out.trans (hb1.mono HB0.out.size))
      have hno1 := hno.below hb1
      clear hb1 hno
      go_wp2_with (first
        | (refine S.wpList_store_but rfl 22 (.tmp 5) (.tmp 18) rfl w1.heap.size ((List.replicate 32 (0 : UInt8)).map S.byteV) rfl rfl _ _ (S.Row.made _ _ _ rfl rfl) S.info_d32 rfl (S.bvals_one _) ?_; intro w2 hr2 hbut2; have HB2 := Lib.hid ((HB1.out.alloc HB1.out.size _).trans (hbut2.below (C := w.heap.size) HB1.out.size (by have := HB1.out.size; simp; omega))); have hno2 := hno1.below (((Below.refl _ _).alloc (Nat.le_refl _) _).trans (hbut2.below (C := w1.heap.size) (Nat.le_refl _) (by simp))); clear hbut2 hno1)
        | (refine S.wpList_load_guard rfl 22 (.tmp 5) rfl w1.heap.size rfl _ M.zeroD (0, 0) _ hr2 Tryd.underlying22 rfl S.info_d32 ?_))
      refine (MWrite_no _ _ _ hno2).mono ?_
      rintro e w' ⟨rfl, rfl⟩
      go_wp2_with fail
      refine (MVerify_no _ _ _ hno2).mono ?_
      rintro e w3 ⟨rfl, hb3⟩
      have HB3 := Lib.hid (HB2.out.trans (hb3.mono HB2.out.size))
      have hno3 := hno2.below hb3
      clear hb3 hno2
      go_wp2_with fail
      refine (MReset_no _ _ hno3).mono ?_
      rintro e w' ⟨rfl, rfl⟩
      clear hno3
      go_wp2_with fail
      go_roundw
      case rel => first | exact ⟨2, by omega, rfl, HB3.out⟩ | ((repeat apply Exists.intro); exact ⟨⟨2, by omega, rfl, HB3.out⟩, rfl⟩)
      case measure => simp [intOf]
    · go_wp2_with fail
      refine (hshown_any _ (HK.out.below HB.out (by omega))).mono ?_
      rintro e w3 ⟨rfl, hb3⟩
      have HB3 := Lib.hid (HB.out.trans (hb3.mono HB.out.size))
      clear hb3
      go_wp2_with fail
      go_ret
      exact ⟨rfl, HB3.out⟩
end Go.Proofs.YtgpgnfdbjljljaaDoor
