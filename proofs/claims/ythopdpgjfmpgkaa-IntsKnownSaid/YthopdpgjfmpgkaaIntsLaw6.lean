/- The walk of IntsKnown. -/
import Derived.Test.YthopdpgjfmpgkaaIntsLaw2
import Derived.Test.YthopdpgjfmpgkaaIntsVar
namespace Go.Proofs.Ythopdpgjfmpgkaa
open Go.RowKit
theorem put_known (w : World) :
    Calls Try.prog 13 #[.slice none 0 0, .int .u64 258, .int .i64 1] w fun e w' => ∃ v, e = .returned (.tuple #[v, .int .i64 7]) ∧ Below w.heap.size w w' := by
  have h := Put_any none 0 [] 258 1 w (BytesIn.nil_ _ _) (by simp)
  have e1 : I.putOk 258 1 = false := by decide
  rw [e1] at h
  refine h.mono ?_
  rintro e w' ⟨v, rfl, _, hb⟩
  exact ⟨v, rfl, hb⟩
theorem get_known (A : Option Addr) (c : Nat) (b E : Int) (hE : I.getE [1, 2, 3] b = E) (w : World) (hb : BytesIn w w.heap.size A c [1, 2, 3]) :
    Calls Try.prog 15 #[.slice A 3 c, .int .i64 b] w fun e w' => ∃ x y, e = .returned (.tuple #[x, y, .int .i64 E]) ∧ Below w.heap.size w w' := by
  refine (Get_any A c [1, 2, 3] b w hb).mono ?_
  rintro e w' ⟨A', n, c', rfl, _, _, h⟩
  exact ⟨_, _, by rw [hE], h⟩
theorem getvar_known (A : Option Addr) (c n : Nat) (l : List UInt8) (N : Nat) (r : List UInt8) (E : Int) (hg : I.GV l N r E) (hn : n = l.length) (hl : l.length ≤ 100) (w : World) (hb : BytesIn w w.heap.size A c l) :
    Calls Try.prog 17 #[.slice A n c] w fun e w' => ∃ y, e = .returned (.tuple #[.int .u64 N, y, .int .i64 E]) ∧ Below w.heap.size w w' := by
  subst hn
  refine (GetVar_any A c l w hb (by omega)).mono ?_
  rintro e w' ⟨N', A', r', c', E', rfl, _, h2, _, h4⟩
  obtain ⟨rfl, rfl, rfl⟩ := I.gv_unique h2 hg
  exact ⟨_, rfl, h4⟩
theorem gv_k1 : I.GV [128, 0] 0 [] 6 := ⟨1, by decide, by decide, Or.inr (Or.inr (Or.inl ⟨by decide, by decide, by decide, by decide, by decide, by decide, rfl, rfl, rfl⟩))⟩
theorem gv_k2 : I.GV [172] 0 [] 10 := ⟨1, by decide, by decide, Or.inl ⟨rfl, by decide, rfl, rfl, rfl⟩⟩
theorem gv_k3 : I.GV [255, 255, 255, 255, 255, 255, 255, 255, 255, 1] 18446744073709551615 [] 0 := ⟨9, by decide, by decide, Or.inr (Or.inr (Or.inr ⟨by decide, by decide, by decide, by decide, by decide, by decide, rfl, rfl⟩))⟩
theorem gv_k4 : I.GV [255, 255, 255, 255, 255, 255, 255, 255, 255, 2] 0 [] 7 := ⟨9, by decide, by decide, Or.inr (Or.inl ⟨rfl, by decide, by decide, rfl, rfl, rfl⟩)⟩
theorem putvar_known (w : World) :
    Calls Try.prog 19 #[.slice none 0 0, .int .u64 300] w fun e w' => ∃ v, e = .returned v ∧ (convert 22 9 v).run Try.prog w' = .ok (.string ⟨#[172, 2]⟩) w' ∧ Below w.heap.size w w' := by
  refine (PutVar_any none 0 [] 300 w (BytesIn.nil_ _ _) (by simp) (by decide)).mono ?_
  rintro e w' ⟨v, rfl, ho, hb⟩
  have e1 : [] ++ I.vb 300 = [172, 2] := by
    rw [I.vb_big (by decide), I.vb_small (by decide)]; decide
  rw [e1] at ho
  exact ⟨v, rfl, conv_own ho, hb⟩
theorem fit_known (n : Int) (sg : Bool) (V E : Int) (hV : I.fitV n 8 sg = V) (hE : I.errV (I.fitOk n 8 sg) = E) (h1 : -9223372036854775808 ≤ n) (h2 : n ≤ 9223372036854775807) (w : World) :
    Calls Try.prog 25 #[.int .i64 n, .int .i64 8, .bool sg] w fun e w' => e = .returned (.tuple #[.int .u64 V, .int .i64 E]) ∧ w = w' := by
  have := Fit_any n 8 sg h1 h2 w
  rwa [hV, hE] at this
theorem widen_known (N : Nat) (sg : Bool) (V E : Int) (hV : I.widV N 8 sg = V) (hE : I.errV (I.widOk N 8 sg) = E) (h : N < 18446744073709551616) (w : World) :
    Calls Try.prog 27 #[.int .u64 N, .int .i64 8, .bool sg] w fun e w' => e = .returned (.tuple #[.int .i64 V, .int .i64 E]) ∧ w = w' := by
  have := Widen_any N 8 sg h w
  rwa [hV, hE] at this
theorem field_known (w : World) : Calls Try.prog 31 #[.int .u64 180, .int .i64 2, .int .i64 4] w fun e w' => e = .returned (.tuple #[.int .u64 13, .int .i64 0]) ∧ ∃ n, w' = w.drewN n := by
  have := Field_any 180 2 4 (by decide) w
  rwa [show I.fldV 180 2 4 = 13 by decide, show I.errV (I.fldOk 2 4) = 0 by decide] at this
theorem with_known (w : World) : Calls Try.prog 33 #[.int .u64 180, .int .i64 2, .int .i64 4, .int .u64 1] w fun e w' => e = .returned (.tuple #[.int .u64 132, .int .i64 0]) ∧ ∃ n, w' = w.drewN n := by
  have := With_any 180 2 4 1 (by decide) w
  rwa [show I.wthV 180 2 4 1 = 132 by decide, show I.errV (I.wthOk 2 4 1) = 0 by decide] at this
theorem shift_known (a k V : Int) (hV : I.shfV a k = V) (h1 : -9223372036854775808 ≤ a) (h2 : a ≤ 9223372036854775807) (h3 : -9223372036854775808 ≤ k) (h4 : k ≤ 9223372036854775807) (w : World) :
    Calls Try.prog 39 #[.int .i64 a, .int .i64 k] w fun e w' => e = .returned (.int .i64 V) ∧ w = w' := by
  have := Shift_any a k h1 h2 h3 h4 w
  rwa [hV] at this
set_option maxRecDepth 100000 in
set_option maxHeartbeats 4000000 in
theorem IntsKnown_walk (w : World) :
    Calls Try.prog 11 #[] w fun e w' => e = .returned (.bool true) ∧ Below w.heap.size w w' := by
  go_enter Try.func11, Try.ntmps11
  go_wp2_with fail
  refine (put_known _).mono ?_
  rintro e w1 ⟨v1, rfl, hb1⟩
  have HB1 := Lib.hid hb1
  clear hb1
  have hba1 : Below w.heap.size w (w1.alloc (.cells #[.int .u8 1, .int .u8 2, .int .u8 3] 5)) := HB1.out.alloc HB1.out.size _
  have HA1 := Lib.hid hba1
  clear hba1
  go_wp2_with fail
  refine (get_known _ _ 4 10 (by decide) _ (BytesIn.made (w := w1) (l := [1, 2, 3]) (cs := #[.int .u8 1, .int .u8 2, .int .u8 3]) rfl (by simp))).mono ?_
  rintro e w2 ⟨x2, y2, rfl, hb2⟩
  have HB2 := Lib.hid (HA1.out.trans (hb2.mono HA1.out.size))
  clear hb2
  have HA2 := Lib.hid (HB2.out.alloc HB2.out.size (.cells #[.int .u8 1, .int .u8 2, .int .u8 3] 5))
  go_wp2_with fail
  refine (get_known _ _ 9 7 (by decide) _ (BytesIn.made (w := w2) (l := [1, 2, 3]) (cs := #[.int .u8 1, .int .u8 2, .int .u8 3]) rfl (by simp))).mono ?_
  rintro e w3 ⟨x3, y3, rfl, hb3⟩
  have HB3 := Lib.hid (HA2.out.trans (hb3.mono HA2.out.size))
  clear hb3
  have HA3 := Lib.hid (HB3.out.alloc HB3.out.size (.cells #[.int .u8 128, .int .u8 0] 5))
  go_wp2_with fail
  refine (getvar_known _ _ _ [128, 0] 0 [] 6 gv_k1 (by rfl) (by simp) _ (BytesIn.made (w := w3) (l := [128, 0]) (cs := #[.int .u8 128, .int .u8 0]) rfl (by simp))).mono ?_
  rintro e w4 ⟨y4, rfl, hb4⟩
  have HB4 := Lib.hid (HA3.out.trans (hb4.mono HA3.out.size))
  clear hb4
  have HA4 := Lib.hid (HB4.out.alloc HB4.out.size (.cells #[.int .u8 172] 5))
  go_wp2_with fail
  refine (getvar_known _ _ _ [172] 0 [] 10 gv_k2 (by rfl) (by simp) _ (BytesIn.made (w := w4) (l := [172]) (cs := #[.int .u8 172]) rfl (by simp))).mono ?_
  rintro e w5 ⟨y5, rfl, hb5⟩
  have HB5 := Lib.hid (HA4.out.trans (hb5.mono HA4.out.size))
  clear hb5
  have HA5 := Lib.hid (HB5.out.alloc HB5.out.size (.cells #[.int .u8 255, .int .u8 255, .int .u8 255, .int .u8 255, .int .u8 255, .int .u8 255, .int .u8 255, .int .u8 255, .int .u8 255, .int .u8 1] 5))
  have hlong := World.ownsRow_lit (base := w5.heap.size) (e := 5) (size := 1) w5 #[.int .u8 255, .int .u8 255, .int .u8 255, .int .u8 255, .int .u8 255, .int .u8 255, .int .u8 255, .int .u8 255, .int .u8 255, .int .u8 1] 10 (Nat.le_refl _) (by unfold maxLen; omega) rfl
  have HLong := Lib.hid hlong
  clear hlong
  go_wp2_with fail
  refine (getvar_known _ _ _ [255, 255, 255, 255, 255, 255, 255, 255, 255, 1] 18446744073709551615 [] 0 gv_k3 (by rfl) (by simp) _ (BytesIn.made (w := w5) (l := [255, 255, 255, 255, 255, 255, 255, 255, 255, 1]) rfl (by simp))).mono ?_
  rintro e w6 ⟨y6, rfl, hb6⟩
  have hown6 := own_below HLong.out hb6
  have HB6 := Lib.hid (HA5.out.trans (hb6.mono HA5.out.size))
  clear hb6
  have hcell : w6.cell? ⟨w5.heap.size, 9, none⟩ = some (.int .u8 1) := hown6.cellAt 9 (by decide)
  have hfr := hown6.frozenAt 9
  obtain ⟨hst, hgr⟩ := hown6.stored 9 (.int .u8 2)
  have hlt5 : w.heap.size ≤ w5.heap.size := HB5.out.size
  have HB7 := Lib.hid (HB6.out.grown hgr HB6.out.size (fun g hg => by injection hg with hg; omega))
  have HST : Hid (BytesIn (w6.setCell ⟨w5.heap.size, 9, none⟩ (.int .u8 2)) (w6.setCell ⟨w5.heap.size, 9, none⟩ (.int .u8 2)).heap.size (some ⟨w5.heap.size, 0, none⟩) 10 [255, 255, 255, 255, 255, 255, 255, 255, 255, 2]) := Lib.hid (BytesIn.of_own (n := 10) hst)
  clear hst hgr hown6 hlt5
  go_wp2_with fail
  refine (getvar_known _ _ _ [255, 255, 255, 255, 255, 255, 255, 255, 255, 2] 0 [] 7 gv_k4 (by rfl) (by simp) _ HST.out).mono ?_
  rintro e w8 ⟨y8, rfl, hb8⟩
  have HB8 := Lib.hid (HB7.out.trans (hb8.mono HB7.out.size))
  clear hb8 hcell hfr
  go_wp2_with fail
  refine (putvar_known _).mono ?_
  rintro e w9 ⟨v9, rfl, hcv, hb9⟩
  have HB9 := Lib.hid (HB8.out.trans (hb9.mono HB8.out.size))
  clear hb9
  go_wp2_with fail
  refine (fit_known 128 true 0 7 (by decide) (by decide) (by decide) (by decide) _).mono ?_
  rintro e w' ⟨rfl, rfl⟩
  clear hcv
  go_wp2_with fail
  refine (fit_known (-1) false 0 7 (by decide) (by decide) (by decide) (by decide) _).mono ?_
  rintro e w' ⟨rfl, rfl⟩
  go_wp2_with fail
  refine (widen_known 255 true (-1) 0 (by decide) (by decide) (by decide) _).mono ?_
  rintro e w' ⟨rfl, rfl⟩
  go_wp2_with fail
  refine (widen_known 255 false 255 0 (by decide) (by decide) (by decide) _).mono ?_
  rintro e w' ⟨rfl, rfl⟩
  go_wp2_with fail
  refine (widen_known 256 true 0 7 (by decide) (by decide) (by decide) _).mono ?_
  rintro e w' ⟨rfl, rfl⟩
  go_wp2_with fail
  refine (field_known _).mono ?_
  rintro e w' ⟨rfl, n1, rfl⟩
  go_wp2_with fail
  refine (with_known _).mono ?_
  rintro e w' ⟨rfl, n2, rfl⟩
  go_wp2_with fail
  refine (shift_known 3 61 6917529027641081856 (by decide) (by decide) (by decide) (by decide) (by decide) _).mono ?_
  rintro e w' ⟨rfl, rfl⟩
  go_wp2_with fail
  refine (shift_known 3 62 9223372036854775807 (by decide) (by decide) (by decide) (by decide) (by decide) _).mono ?_
  rintro e w' ⟨rfl, rfl⟩
  go_wp2_with fail
  refine (shift_known (-3) 64 (-9223372036854775808) (by decide) (by decide) (by decide) (by decide) (by decide) _).mono ?_
  rintro e w' ⟨rfl, rfl⟩
  go_wp2_with fail
  refine ((Zig_any (-1) (by decide) (by decide) _)).mono ?_
  rintro e w' ⟨rfl, rfl⟩
  rw [show I.zigN (-1) = 1 by decide]
  go_wp2_with fail
  refine ((Zig_any 2 (by decide) (by decide) _)).mono ?_
  rintro e w' ⟨rfl, rfl⟩
  rw [show I.zigN 2 = 4 by decide]
  go_wp2_with fail
  refine ((Zag_any 3 (by decide) _)).mono ?_
  rintro e w' ⟨rfl, rfl⟩
  rw [show I.zagN 3 = -2 by decide]
  go_wp2_with fail
  refine (awake_any _).mono ?_
  rintro e w10 ⟨rfl, hb10⟩
  go_wp2_with fail
  go_ret
  have HX := I.below_drewN HB9.out (n1 + n2)
  exact ⟨rfl, HX.trans (hb10.mono HX.size)⟩
end Go.Proofs.Ythopdpgjfmpgkaa
