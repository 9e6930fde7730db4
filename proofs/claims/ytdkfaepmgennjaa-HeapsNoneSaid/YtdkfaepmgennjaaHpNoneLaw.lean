/- HeapsNone. -/
import Derived.Test.YtdkfaepmgennjaaHpWalked
namespace Go.Proofs.Ytdkfaepmgennjaa
open Go.RowKit
set_option linter.unusedSimpArgs false
set_option maxRecDepth 100000
theorem NNew_any (w : World) : Calls Try.prog 11 #[.nilFunc] w fun e w' => e = .returned (.pointer none) ∧ w = w' := by
  have qF : ∀ w : World, (binOp .eql 29 .nilFunc .nilFunc).run Try.prog w = .ok (.bool true) w := fun w => by kernel_rfl
  go_enter Try.func11, Try.ntmps11
  go_wp2_with fail
  go_ret
  exact ⟨rfl, rfl⟩
theorem NLoad_any (w : World) : Calls Try.prog 14 #[.nilFunc, .agg #[.int .i64 1, .slice none 0 0]] w fun e w' => e = .returned (.tuple #[.pointer none, .int .i64 1]) ∧ Below w.heap.size w w' := by
  have HN := Lib.hid (fun w => NNew_any w)
  have HB := Lib.hid (fun o => below_new w o)
  go_enter Try.func14, Try.ntmps14
  go_wp2_with fail
  refine (HN.out _).mono ?_
  rintro e w' ⟨rfl, rfl⟩
  go_wp2_with fail
  go_ret2
  first | exact ⟨rfl, HB.out _⟩ | exact ⟨rfl, Below.refl _ _⟩
def qv (gz : Nat) : Nat → Option Addr
  | 0 => none
  | _ => some ⟨gz, 0, none⟩
theorem qv_not {w : World} {gz : Nat} {t : TypeId} (h : w.heap[gz]? = some (.cells #[.pointer none, .int .i64 0, .nilFunc, .bool false, .slice none 0 0, .map none] t (0, 0))) (k : Nat) : NotMade w (qv gz k) := by
  cases k with
  | zero => exact .inl rfl
  | succ k => exact .inr ⟨gz, rfl, by rw [cell_of_row _ _ _ _ _ _ h]; rfl⟩
theorem qv_cell {w : World} {ga gz : Nat} {t : TypeId} (h : w.heap[ga]? = some (.cells #[.pointer none, .pointer (some ⟨gz, 0, none⟩)] t (0, 0))) : ∀ k, k < 2 → w.cell? ⟨ga, k, none⟩ = some (.pointer (qv gz k))
  | 0, _ => by rw [cell_of_row _ _ _ _ _ _ h]; rfl
  | 1, _ => by rw [cell_of_row _ _ _ _ _ _ h]; rfl
/-- The rounds' world. -/
structure NI (w wr : World) (ga gz : Nat) : Prop where
  arr : wr.heap[ga]? = some (.cells #[.pointer none, .pointer (some ⟨gz, 0, none⟩)] 48 (0, 0))
  que : wr.heap[gz]? = some (.cells #[.pointer none, .int .i64 0, .nilFunc, .bool false, .slice none 0 0, .map none] 47 (0, 0))
  bel : Below w.heap.size w wr
theorem NI.on {w wr wr' : World} {ga gz : Nat} (h : NI w wr ga gz) (hb : Below wr.heap.size wr wr') : NI w wr' ga gz :=
  ⟨(hb.block _ (Array.getElem?_eq_some_iff.1 h.arr).1).trans h.arr, (hb.block _ (Array.getElem?_eq_some_iff.1 h.que).1).trans h.que, bt h.bel h.bel.size hb⟩
theorem NI.start (w : World) : ∃ W, (w.alloc (.cells #[.pointer none, .int .i64 0, .nilFunc, .bool false, .slice none 0 0, .map none] 47)).alloc (.cells #[.pointer none, .pointer (some ⟨w.heap.size, 0, none⟩)] 48) = W ∧ NI w W (w.heap.size + 1) w.heap.size := by
  have z1 : (w.alloc (.cells #[.pointer none, .int .i64 0, .nilFunc, .bool false, .slice none 0 0, .map none] 47)).heap.size = w.heap.size + 1 := by simp
  have h2 := heap_alloc_new (w.alloc (.cells #[.pointer none, .int .i64 0, .nilFunc, .bool false, .slice none 0 0, .map none] 47)) (.cells #[.pointer none, .pointer (some ⟨w.heap.size, 0, none⟩)] 48)
  rw [z1] at h2
  refine ⟨_, rfl, h2, ?_, bt (below_new w _) (by omega) (below_new _ _)⟩
  rw [(below_new (w.alloc _) _).block _ (by simp)]
  exact heap_alloc_new w _
set_option maxHeartbeats 4000000 in
theorem HeapsNone_walk (h va : Int) (w : World) : Calls Try.prog 4 #[.int .i64 h, .int .i64 va] w fun e w' => e = .returned (.bool true) ∧ Below w.heap.size w w' := by
  obtain ⟨W, eW, hI⟩ := NI.start w
  have HE := Lib.hid eW
  have HI := Lib.hid hI
  clear eW hI
  go_enter Try.func4, Try.ntmps4
  go_wp2_with fail
  rw [HE.out]
  clear HE
  obtain ⟨gz, hgz⟩ : ∃ gz, w.heap.size = gz := ⟨_, rfl⟩
  rw [hgz] at HI ⊢
  clear hgz
  have HL := Lib.hid (fun w => NLoad_any w)
  have HN := Lib.hid (fun w => NNew_any w)
  have HA := Lib.hid (fun w => awake_any w)
  go_loopw [7] (fun i wr => ∃ k : Nat, k ≤ 2 ∧ i = .int .i64 k ∧ Hid (NI w wr (gz + 1) gz)) (fun i _ => 2 - (intOf i).toNat)
  case atStart => exact ⟨0, by omega, rfl, HI⟩
  case round =>
    obtain ⟨k, hk, rfl, hI⟩ := hrel
    by_cases hlt : k < 2
    · have c0 := qv_cell hI.out.arr k hlt
      have hq := qv_not hI.out.que k
      generalize qv gz k = q at c0 hq
      have H1 := Lib.hid (NPush_any q va wr hq)
      have H2 := Lib.hid (NPop_any q wr hq)
      have H3 := Lib.hid (NPeek_any q wr hq)
      have H4 := Lib.hid (NGet_any q h wr hq)
      have H5 := Lib.hid (NRemove_any q h wr hq)
      have H6 := Lib.hid (NSet_any q h va wr hq)
      have H7 := Lib.hid (NLen_any q wr hq)
      have H8 := Lib.hid (Nwalked_any q wr hq)
      have HQ := Lib.hid hq
      have C0 := Lib.hid c0
      have qf : ∀ (a b : Value) (w : World), (Instr.field 24 (.agg #[a, b]) 1).run Try.prog w = .ok b w := fun _ _ _ => by kernel_rfl
      clear hq
      go_wp2_with fail
      refine H1.out.mono ?_
      rintro e w' ⟨rfl, rfl⟩
      go_wp2_with fail
      refine H2.out.mono ?_
      rintro e w' ⟨rfl, rfl⟩
      go_wp2_with fail
      refine H3.out.mono ?_
      rintro e w' ⟨rfl, rfl⟩
      go_wp2_with fail
      refine H4.out.mono ?_
      rintro e w' ⟨rfl, rfl⟩
      go_wp2_with fail
      refine H5.out.mono ?_
      rintro e w' ⟨rfl, rfl⟩
      go_wp2_with fail
      refine H6.out.mono ?_
      rintro e w' ⟨rfl, rfl⟩
      go_wp2_with fail
      refine H7.out.mono ?_
      rintro e w' ⟨rfl, rfl⟩
      go_wp2_with fail
      refine H8.out.mono ?_
      rintro e w2 ⟨rfl, hb2⟩
      have H9 := Lib.hid (NSave_any q w2 (HQ.out.below hb2))
      have HI2 := Lib.hid (hI.out.on hb2)
      have c2 : w2.cell? ⟨gz + 1, k, none⟩ = some (.pointer q) := by rw [hb2.cell (World.block_lt_of_cell? wr _ C0.out)]; exact C0.out
      clear c0 C0 H1 H2 H3 H4 H5 H6 H7 H8 HQ hb2 hI
      go_wp2_with fail
      refine H9.out.mono ?_
      rintro e w3 ⟨rfl, hb3⟩
      have HI3 := Lib.hid (HI2.out.on hb3)
      clear H9 HI2 c2 hb3
      go_wp2_with fail
      go_roundw
      case rel => exact ⟨k + 1, by omega, by go_num, HI3⟩
      case measure => simp [intOf]; omega
    · have HB := Lib.hid hI.out.bel
      clear hI
      go_wp2_with fail
      refine (HL.out _).mono ?_
      rintro e w2 ⟨rfl, hb2⟩
      have HB2 := Lib.hid (bt HB.out HB.out.size hb2)
      clear HB hb2
      go_wp2_with fail
      refine (HN.out _).mono ?_
      rintro e w' ⟨rfl, rfl⟩
      go_wp2_with fail
      refine (HA.out _).mono ?_
      rintro e w3 ⟨rfl, hb3⟩
      go_wp2_with fail
      go_ret
      exact ⟨rfl, bt HB2.out HB2.out.size hb3⟩
end Go.Proofs.Ytdkfaepmgennjaa
