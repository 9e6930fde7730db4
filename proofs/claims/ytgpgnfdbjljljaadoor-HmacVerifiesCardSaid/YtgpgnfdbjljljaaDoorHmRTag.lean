/- The contracts of the reference's padded and Tag. -/
import Derived.Test.YtgpgnfdbjljljaaDoorHmRBlk
namespace Go.Proofs.YtgpgnfdbjljljaaDoor
open Go.RowKit
namespace M
theorem mix_snoc {m : UInt8} {l : List UInt8} {k : Nat} (h : k < l.length) : mix m (l.take (k + 1)) = mix m (l.take k) ++ [l[k] ^^^ m] := by
  unfold mix
  rw [List.take_succ_eq_append_getElem h, List.map_append]
  rfl
theorem byte_back (x : UInt8) : UInt8.ofNat ((x.toNat : Int)).toNat = x := by
  rw [Int.toNat_natCast, UInt8.ofNat_toNat]
end M
set_option maxRecDepth 100000 in
set_option maxHeartbeats 2000000 in
theorem RPadded_any (A A2 : Option Addr) (c c2 : Nat) (key b : List UInt8) (m : UInt8) (z : Int) (hz : z = (m.toNat : Int)) (w : World) (hin : BytesIn w w.heap.size A c key) (hin2 : BytesIn w w.heap.size A2 c2 b) (hlen : key.length ≤ 100000) (hlen2 : b.length ≤ 90000) :
    Calls Tryd.prog 57 #[.slice A key.length c, .int .u8 z, .slice A2 b.length c2] w fun e w' => ∃ v, e = .returned v ∧ w'.ownsRow w.heap.size 5 1 v (M.mix m (M.block key) ++ b).length ((M.mix m (M.block key) ++ b).map S.byteV) ∧ Below w.heap.size w w' := by
  have HBk := Lib.hid (RKBlock_any A c key w hin hlen)
  obtain ⟨K, HKk⟩ : ∃ K, Hid (K = M.block key) := ⟨_, Lib.hid rfl⟩
  have HKl := Lib.hid (show K.length = 64 by rw [HKk.out, M.block_len])
  rw [← HKk.out] at HBk ⊢
  have HKi := Lib.hid (show (Tryd.prog.info? 60).map (·.size) = some (K.map S.byteV).toArray.size by rw [S.info_blk]; simp [HKl.out])
  generalize key.length = N1 at HBk ⊢
  have HI2 := Lib.hid hin2
  obtain ⟨N, HN⟩ : ∃ N, Hid (N = b.length) := ⟨_, Lib.hid rfl⟩
  have HL2 := Lib.hid hlen2
  rw [← HN.out] at hlen2 ⊢
  have HZ := Lib.hid hz
  have hz0 : 0 ≤ z := by omega
  have hz1 : z < 256 := by have := m.toNat_lt; omega
  clear hin hin2 hlen hz
  go_enter Tryd.func57, Tryd.ntmps57
  go_wp2_with fail
  refine HBk.out.mono ?_
  rintro e w1 ⟨rfl, hb1⟩
  go_wp2_with (refine S.wpList_store_but rfl 60 (.tmp 7) (.tmp 11) rfl w1.heap.size (K.map S.byteV) rfl rfl _ _ (S.Row.made (l := List.replicate 64 (S.byteV 0)) _ _ _ rfl rfl) HKi.out (by simp [HKl.out]) (S.bvals_one _) ?_; intro w2 hr2 hbut2; have hb02 := (hb1.alloc hb1.size (.cells (Array.replicate 64 (S.byteV 0)) 60)).trans (hbut2.below (C := w.heap.size) hb1.size (by have := hb1.size; simp; omega)); clear hbut2)
  have hlt2 := hr2.lt
  have hsz1 := hb1.size
  clear hb1
  go_loopw [8, 9] (fun v i wr => ∃ k : Nat, k ≤ 64 ∧ i = .int .i64 k ∧ wr.ownsRow w2.heap.size 5 1 v (M.mix m (K.take k)).length ((M.mix m (K.take k)).map S.byteV) ∧ Below w2.heap.size w2 wr) (fun _ i _ => 64 - (intOf i).toNat)
  case atStart => exact ⟨0, Nat.zero_le _, rfl, World.ownsRow_nil _ _ _ _, Below.refl _ _⟩
  case round =>
    obtain ⟨k, hk, rfl, hown, hbel⟩ := hrel
    have hr := hr2.below hbel hlt2
    by_cases hlt : k < 64
    · have hkl : k < K.length := by rw [HKl.out]; exact hlt
      have hc := hr.cell (j := k) (v := .int .u8 (K[k].toNat : Int)) (by rw [List.getElem?_map, List.getElem?_eq_getElem hkl]; rfl)
      have hlen : (M.mix m (K.take k)).length ≤ 1000000 := by rw [M.mix_len, List.length_take]; omega
      have HS := Lib.hid (M.mix_snoc (m := m) hkl)
      have hx := u8_xor_nat K[k].toNat m.toNat K[k].toNat_lt m.toNat_lt
      rw [← HZ.out, ← UInt8.toNat_xor] at hx
      obtain ⟨x, hX⟩ : ∃ x, x = K[k] ^^^ m := ⟨_, rfl⟩
      rw [← hX] at hx
      have HSX := HS.out
      rw [← hX, ← M.byte_back x] at HSX
      replace HSX := Lib.hid HSX
      have hx0 : (0 : Int) ≤ (x.toNat : Int) := by omega
      have hx1 : (x.toNat : Int) < 256 := by have := x.toNat_lt; omega
      generalize (x.toNat : Int) = xz at hx HSX hx0 hx1
      generalize (K[k].toNat : Int) = y at hc hx
      generalize M.mix m (K.take k) = xs at hown hlen HS HSX
      clear hX HS hr hkl
      go_wp2_with (at_builtin; refine push_byte w2 wr xz rfl (.tmp 16) (.tmp 22) rfl w2.heap.size _ xs rfl rfl hown (Nat.le_refl _) hbel hx0 hx1 hlen ?_; intro v4 w4 hown4 hb4)
      rw [← HSX.out] at hown4
      clear hown hbel
      go_roundw
      case rel => exact ⟨k + 1, by omega, by go_num, hown4, hb4⟩
      case measure => simp [intOf]; omega
    · obtain rfl : k = 64 := by omega
      have hE : K.take 64 = K := List.take_of_length_le (by rw [HKl.out]; exact Nat.le_refl _)
      rw [hE] at hown
      have hb9 := hb02.trans (hbel.mono hb02.size)
      have hin9 := HI2.out.below hb9
      have hML := Lib.hid (show (M.mix m K).length ≤ 1000000 by rw [M.mix_len, HKl.out]; omega)
      have hBL := Lib.hid (show b.length ≤ 1000000 by have := HL2.out; omega)
      clear hE hr hr2 hlt hk
      go_wp2_with (at_builtin; refine push_bytes w2 wr rfl (.tmp 24) (.tmp 25) rfl w2.heap.size _ (M.mix m K) rfl hown w.heap.size A2 c2 N b HN.out rfl hin9 (Nat.le_refl _) hbel hML.out hBL.out ?_; intro v5 w5 hown5 hb5 _)
      have HB := Lib.hid (hb02.trans (hb5.mono hb02.size))
      have HO := Lib.hid (own_base hown5 hb02.size)
      clear hb9 hin9 hown5 hown hb5 hbel hb02
      go_ret
      exact ⟨_, rfl, HO.out, HB.out⟩
set_option maxRecDepth 100000 in
set_option maxHeartbeats 2000000 in
theorem RKTag_any (A A2 : Option Addr) (c c2 : Nat) (key b : List UInt8) (w : World) (hin : BytesIn w w.heap.size A c key) (hin2 : BytesIn w w.heap.size A2 c2 b) (hlen : key.length ≤ 10000) (hlen2 : b.length ≤ 10000) :
    Calls Tryd.prog 35 #[.slice A key.length c, .slice A2 b.length c2] w fun e w' => e = .returned (.agg ((M.tag key b).map S.byteV).toArray) ∧ Below w.heap.size w w' := by
  have HI := Lib.hid hin
  have HI2 := Lib.hid hin2
  have HP1 := Lib.hid (fun w hi hi2 => RPadded_any A A2 c c2 key b 54 54 rfl w hi hi2 (by omega) (by omega))
  have HP2 := Lib.hid (fun A3 c3 d w hi hi3 hd => RPadded_any A A3 c c3 key d 92 92 rfl w hi hi3 (by omega) hd)
  obtain ⟨X, HX⟩ : ∃ X, Hid (X = M.mix 54 (M.block key) ++ b) := ⟨_, Lib.hid rfl⟩
  obtain ⟨Y, HY⟩ : ∃ Y, Hid (Y = M.mix 92 (M.block key)) := ⟨_, Lib.hid rfl⟩
  obtain ⟨d, HD⟩ : ∃ d, Hid (d = S.digest X) := ⟨_, Lib.hid rfl⟩
  have HDl := Lib.hid (show d.length = 32 by rw [HD.out, S.digest_len])
  have HDI := Lib.hid (show (Tryd.prog.info? 22).map (·.size) = some (d.map S.byteV).toArray.size by rw [S.info_d32]; simp [HDl.out])
  have HXl := Lib.hid (show X.length ≤ 100000 by rw [HX.out, List.length_append, M.mix_len, M.block_len]; omega)
  have HYl := Lib.hid (show Y.length = 64 by rw [HY.out, M.mix_len, M.block_len])
  obtain ⟨R, HR⟩ : ∃ R, Hid (R = (M.tag key b).map S.byteV) := ⟨_, Lib.hid rfl⟩
  have HRE := Lib.hid (show S.digV (Y ++ d) = R by rw [HR.out, HY.out, HD.out, HX.out]; rfl)
  have HRl := Lib.hid (show R.length = 32 by rw [HR.out, List.length_map, M.tag_len])
  have HRi := Lib.hid (show (Tryd.prog.info? 22).map (·.size) = some R.toArray.size by rw [S.info_d32]; simp [HRl.out])
  have HR1 := Lib.hid (show R.toArray.all (·.oneCell') = true by rw [HR.out]; exact S.bvals_one _)
  rw [← HR.out]
  rw [← HX.out] at HP1
  rw [← HY.out] at HP2
  have HS1 := Lib.hid (fun A c w hi => RSum_any A c X w hi HXl.out)
  unfold S.digV at HS1
  rw [← HD.out] at HS1
  generalize key.length = N1 at HP1 HP2 ⊢
  generalize b.length = N2 at HP1 ⊢
  clear hin hin2 hlen hlen2
  go_enter Tryd.func35, Tryd.ntmps35
  go_wp2_with fail
  have hb0 : Below w.heap.size w (w.alloc (.cells (Array.replicate 32 (S.byteV 0)) 22)) := (Below.refl _ _).alloc (Nat.le_refl _) _
  have hres0 : S.Row (w.alloc (.cells (Array.replicate 32 (S.byteV 0)) 22)) w.heap.size 22 (List.replicate 32 (S.byteV 0)) := S.Row.made _ _ _ rfl rfl
  refine (HP1.out _ ((HI.out.below hb0).more hb0.size) ((HI2.out.below hb0).more hb0.size)).mono ?_
  rintro e w1 ⟨v1, rfl, hown1, hb1⟩
  obtain ⟨A1, c1, rfl, _⟩ := S.own_slice hown1
  have hin1 := BytesIn.of_own hown1
  have hres1 := hres0.below hb1 hres0.lt
  have hb01 := hb0.trans (hb1.mono hb0.size)
  clear hown1 hb1 hb0 hres0 HP1 HI2
  go_wp2_with fail
  refine (HS1.out _ _ _ hin1).mono ?_
  rintro e w2 ⟨rfl, hb2⟩
  have hres2 := hres1.below hb2 hres1.lt
  have hb02 := hb01.trans (hb2.mono hb01.size)
  clear hin1 hb2 hres1 hb01
  go_wp2_with (refine S.wpList_store_but rfl 22 (.tmp 5) (.tmp 11) rfl w2.heap.size (d.map S.byteV) rfl rfl _ _ (S.Row.made (l := List.replicate 32 (S.byteV 0)) _ _ _ rfl rfl) HDI.out (by simp [HDl.out]) (S.bvals_one _) ?_; intro w3 hr3 hbut3; have hres3 := hbut3.row (hres2.alloc _) (by have := hres2.lt; omega); have hb03 := (hb02.alloc hb02.size (.cells (Array.replicate 32 (S.byteV 0)) 22)).trans (hbut3.below (C := w.heap.size) hb02.size (by have := hb02.size; simp; omega)); clear hbut3 hres2 hb02)
  have hlt3 := hr3.lt
  go_loopw [6, 7] (fun v i wr => ∃ k : Nat, k ≤ 32 ∧ i = .int .i64 k ∧ wr.ownsRow w3.heap.size 5 1 v (d.take k).length ((d.take k).map S.byteV) ∧ Below w3.heap.size w3 wr) (fun _ i _ => 32 - (intOf i).toNat)
  case atStart => exact ⟨0, Nat.zero_le _, rfl, World.ownsRow_nil _ _ _ _, Below.refl _ _⟩
  case round =>
    obtain ⟨k, hk, rfl, hown, hbel⟩ := hrel
    have hr := hr3.below hbel hlt3
    by_cases hlt : k < 32
    · have hkl : k < d.length := by rw [HDl.out]; exact hlt
      have hc := hr.cell (j := k) (v := .int .u8 (d[k].toNat : Int)) (by rw [List.getElem?_map, List.getElem?_eq_getElem hkl]; rfl)
      have hlen : (d.take k).length ≤ 1000000 := by rw [List.length_take]; omega
      have hs := List.take_succ_eq_append_getElem hkl
      rw [← M.byte_back d[k]] at hs
      have HS := Lib.hid hs
      have hx0 : (0 : Int) ≤ (d[k].toNat : Int) := by omega
      have hx1 : (d[k].toNat : Int) < 256 := by have := d[k].toNat_lt; omega
      generalize (d[k].toNat : Int) = y at hc HS hx0 hx1
      generalize d.take k = xs at hown hlen HS
      clear hr hs hkl
      go_wp2_with (at_builtin; refine push_byte w3 wr y rfl (.tmp 16) (.tmp 20) rfl w3.heap.size _ xs rfl rfl hown (Nat.le_refl _) hbel hx0 hx1 hlen ?_; intro v4 w4 hown4 hb4)
      rw [← HS.out] at hown4
      clear hown hbel
      go_roundw
      case rel => exact ⟨k + 1, by omega, by go_num, hown4, hb4⟩
      case measure => simp [intOf]; omega
    · obtain rfl : k = 32 := by omega
      have hE : d.take 32 = d := List.take_of_length_le (by rw [HDl.out]; exact Nat.le_refl _)
      rw [hE] at hown
      obtain ⟨A5, c5, rfl, _⟩ := S.own_slice hown
      have hin5 := BytesIn.of_own hown
      have hb05 := hb03.trans (hbel.mono hb03.size)
      have hres5 := hres3.below hbel (by have := hres3.lt; omega)
      have hs5 := hb05.size
      clear hE hr hr3 hown hbel hres3 hb03 hlt hk
      go_wp2_with fail
      refine (HP2.out A5 c5 d _ ((HI.out.below hb05).more hb05.size) hin5 (by rw [HDl.out]; omega)).mono ?_
      rintro e w6 ⟨v6, rfl, hown6, hb6⟩
      obtain ⟨Z, HZ⟩ : ∃ Z, Hid (Z = Y ++ d) := ⟨_, Lib.hid rfl⟩
      rw [← HZ.out] at hown6
      obtain ⟨A6, c6, rfl, _⟩ := S.own_slice hown6
      have hin6 := BytesIn.of_own hown6
      have hres6 := hres5.below hb6 hres5.lt
      have hb06 := hb05.trans (hb6.mono hb05.size)
      have hsum := RSum_any A6 c6 Z w6 hin6 (by rw [HZ.out, List.length_append, HYl.out, HDl.out]; omega)
      rw [HZ.out, HRE.out, ← HZ.out] at hsum
      clear hin5 hin6 hown6 hb6 hres5 hb05 HP2
      go_wp2_with fail
      refine hsum.mono ?_
      rintro e w7 ⟨rfl, hb7⟩
      have hres7 := hres6.below hb7 hres6.lt
      have HB7 := Lib.hid (hb06.trans (hb7.mono hb06.size))
      clear hsum hb7 hres6 hb06
      go_wp2_with (refine S.wpList_store_but rfl 22 (.tmp 4) (.tmp 25) rfl w.heap.size R rfl rfl _ _ hres7 HRi.out (by rw [HRl.out]; rfl) HR1.out ?_; intro w9 hr9 hbut9)
      exact bodyPost_ret (v := .agg R.toArray) (results_cell_row Tryd.results35 _ _ w.heap.size _ _ _ _ rfl hr9 Tryd.underlying22 rfl HRi.out) rfl ⟨rfl, HB7.out.trans (hbut9.below (Nat.le_refl _) HB7.out.size)⟩
end Go.Proofs.YtgpgnfdbjljljaaDoor
