/- The examples that each law asks for first. -/
import Derived.Test.YthopdpgjfmpgkaaIntsGv
namespace Go.Proofs.Ythopdpgjfmpgkaa
open Go.RowKit
theorem BytesIn.made {w : World} {l : List UInt8} {cs : Array Value} (h : cs = (l.map byteV).toArray) (hl : l.length ≤ 1000) : BytesIn (w.alloc (.cells cs 5)) (w.alloc (.cells cs 5)).heap.size (some ⟨w.heap.size, 0, none⟩) l.length l := by
  subst h
  refine ⟨Nat.le_refl _, by unfold maxLen; omega, fun e => (by cases e), fun ad e => ?_⟩
  injection e with e
  subst e
  intro j u hu
  refine ⟨by simp, ?_⟩
  have hadd : (⟨w.heap.size, 0, none⟩ : Addr).add j = ⟨w.heap.size, j, none⟩ := by unfold Addr.add; split <;> simp_all
  rw [hadd, cell_of_row _ w.heap.size j _ 5 (0, 0) (heap_alloc_new w _)]
  rw [List.getElem?_toArray, List.getElem?_map, hu]; rfl
theorem put_awake (w : World) :
    Calls Try.prog 13 #[.slice none 0 0, .int .u64 258, .int .i64 4] w fun e w' => ∃ v, e = .returned (.tuple #[v, .int .i64 0]) ∧ w'.ownsRow w.heap.size 5 1 v ([0, 0, 1, 2] : List UInt8).length (([0, 0, 1, 2] : List UInt8).map byteV) ∧ Below w.heap.size w w' := by
  have h := Put_any none 0 [] 258 4 w (BytesIn.nil_ _ _) (by simp)
  have e1 : I.putOk 258 4 = true := by decide
  have e2 : I.putL [] 258 4 = [0, 0, 1, 2] := by unfold I.putL; rw [e1]; decide
  rw [e1, e2] at h
  exact h
theorem getvar_awake (A : Option Addr) (c : Nat) (w : World) (hb : BytesIn w w.heap.size A c [172, 2, 9]) :
    Calls Try.prog 17 #[.slice A 3 c] w fun e w' => ∃ A' c', e = .returned (.tuple #[.int .u64 300, .slice A' 1 c', .int .i64 0]) ∧ BytesIn w' w.heap.size A' c' [9] ∧ Below w.heap.size w w' := by
  refine (GetVar_any A c [172, 2, 9] w hb (by simp)).mono ?_
  rintro e w' ⟨N, A', r, c', E, rfl, h1, h2, _, h4⟩
  have hg : I.GV [172, 2, 9] 300 [9] 0 := ⟨1, by decide, by decide, Or.inr (Or.inr (Or.inr ⟨by decide, by decide, by decide, by decide, by decide, by decide, rfl, rfl⟩))⟩
  obtain ⟨rfl, rfl, rfl⟩ := I.gv_unique h2 hg
  exact ⟨A', c', rfl, h1, h4⟩
theorem fit_awake (w : World) :
    Calls Try.prog 25 #[.int .i64 (-1), .int .i64 8, .bool true] w fun e w' => e = .returned (.tuple #[.int .u64 255, .int .i64 0]) ∧ w = w' := by
  have h := Fit_any (-1) 8 true (by decide) (by decide) w
  have e1 : I.fitOk (-1) 8 true = true := by decide
  have e2 : I.fitV (-1) 8 true = 255 := by unfold I.fitV; rw [e1]; decide
  rw [e1, e2] at h
  exact h
theorem turn_awake (w : World) :
    Calls Try.prog 29 #[.int .u64 6, .int .i64 3, .int .i64 1] w fun e w' => e = .returned (.tuple #[.int .u64 5, .int .i64 0]) ∧ Below w.heap.size w w' := by
  have h := Turn_any 6 3 1 w
  have e1 : I.trnOk 6 3 = true := by decide
  have e2 : I.trnV 6 3 1 = 5 := by unfold I.trnV; rw [e1]; decide
  rw [e1, e2] at h
  refine h.mono ?_
  rintro e w' ⟨rfl, n, rfl⟩
  exact ⟨rfl, I.below_drewN (Below.refl _ _) n⟩
theorem shift_awake (w : World) :
    Calls Try.prog 39 #[.int .i64 (-3), .int .i64 (-1)] w fun e w' => e = .returned (.int .i64 (-2)) ∧ w = w' := by
  have h := Shift_any (-3) (-1) (by decide) (by decide) (by decide) (by decide) w
  have e2 : I.shfV (-3) (-1) = -2 := by decide
  rw [e2] at h
  exact h
set_option maxRecDepth 100000 in
set_option maxHeartbeats 1000000 in
theorem awake_any (w : World) :
    Calls Try.prog 12 #[] w fun e w' => e = .returned (.bool true) ∧ Below w.heap.size w w' := by
  go_enter Try.func12, Try.ntmps12
  go_wp2_with fail
  refine (put_awake _).mono ?_
  rintro e w1 ⟨v1, rfl, hown1, hb1⟩
  go_wp2_with fail
  have hin := BytesIn.made (w := w1) (l := [172, 2, 9]) (cs := #[.int .u8 172, .int .u8 2, .int .u8 9]) rfl (by simp)
  refine (getvar_awake _ _ _ hin).mono ?_
  rintro e w2 ⟨A2, c2, rfl, hin2, hb2⟩
  go_wp2_with fail
  refine (fit_awake _).mono ?_
  rintro e w' ⟨rfl, rfl⟩
  go_wp2_with fail
  refine (turn_awake _).mono ?_
  rintro e w3 ⟨rfl, hb3⟩
  have hsz : w1.heap.size ≤ (w1.alloc (.cells #[.int .u8 172, .int .u8 2, .int .u8 9] 5)).heap.size := by simp
  have hba : Below w1.heap.size w1 (w1.alloc (.cells #[.int .u8 172, .int .u8 2, .int .u8 9] 5)) := (Below.refl _ _).alloc (Nat.le_refl _) _
  have hb13 : Below w1.heap.size w1 w3 := (hba.trans (hb2.mono hsz)).trans (hb3.mono (Nat.le_trans hsz hb2.size))
  have hown3 := own_below hown1 hb13
  have hin3 := hin2.below (hb3.mono hb2.size)
  have hc1 : (convert 22 9 v1).run Try.prog w3 = .ok (.string ⟨#[0, 0, 1, 2]⟩) w3 := conv_own hown3
  have hc2 : (convert 22 9 (.slice A2 1 c2)).run Try.prog w3 = .ok (.string ⟨#[9]⟩) w3 := conv_in hin3
  have HB := Lib.hid (hb1.trans (hb13.mono hb1.size))
  clear hown3 hin3 hin2 hown1 hin hb1 hb2 hb3 hba hb13
  go_wp2_with fail
  refine (shift_awake _).mono ?_
  rintro e w' ⟨rfl, rfl⟩
  go_wp2_with fail
  go_ret
  exact ⟨rfl, HB.out⟩
end Go.Proofs.Ythopdpgjfmpgkaa
