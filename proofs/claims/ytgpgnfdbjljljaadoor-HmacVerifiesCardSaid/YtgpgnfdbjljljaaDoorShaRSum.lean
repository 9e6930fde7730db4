/- The contract of the reference's Sum. -/
import Derived.Test.YtgpgnfdbjljljaaDoorShaRConst
import Derived.Test.YtgpgnfdbjljljaaDoorShaEq
import Derived.Test.YtgpgnfdbjljljaaDoorShaRPad
namespace Go.Proofs.YtgpgnfdbjljljaaDoor
open Go.RowKit
namespace S
/-- A block of which the first n bytes are copied. -/
def cop (T : List UInt8) (n : Nat) : List UInt8 := T.take n ++ List.replicate (64 - n) 0
theorem cop_at {T : List UInt8} (hT : 64 ≤ T.length) {n : Nat} (h : n < 64) : ((cop T n).map byteV)[n]? = some (.int .u8 0) := by
  unfold cop
  rw [List.getElem?_map, List.getElem?_append_right (by simp; omega), List.length_take, Nat.min_eq_left (by omega), Nat.sub_self, List.getElem?_replicate, if_pos (by omega)]
  rfl
theorem cop_set {T : List UInt8} (hT : 64 ≤ T.length) {n : Nat} (h : n < 64) : ((cop T n).map byteV).set n (.int .u8 (T[n].toNat : Nat)) = (cop T (n + 1)).map byteV := by
  unfold cop
  rw [show (Value.int .u8 (T[n].toNat : Nat)) = byteV T[n] from rfl, ← List.map_set, List.set_append_right _ _ (by simp; omega), List.length_take, Nat.min_eq_left (by omega), Nat.sub_self]
  obtain ⟨m, hm⟩ : ∃ m, 64 - n = m + 1 := ⟨64 - n - 1, by omega⟩
  rw [hm, List.replicate_succ, List.set_cons_zero, List.take_succ_eq_append_getElem (by omega), show 64 - (n + 1) = m by omega, List.append_assoc]
  rfl
theorem flat_at (r : Nat) (hr : r < 4) : ∀ (L : List Nat) (m : Nat), m < L.length → (L.flatMap (fun x => be x 4))[4 * m + r]? = (be (L.getD m 0) 4)[r]?
  | [], _, h => by simp at h
  | a :: L, 0, _ => by
    rw [List.flatMap_cons, List.getElem?_append_left (by rw [be_len]; omega)]
    simp
  | a :: L, m + 1, h => by
    rw [List.flatMap_cons, List.getElem?_append_right (by rw [be_len]; omega), be_len, show 4 * (m + 1) + r - 4 = 4 * m + r by omega, flat_at r hr L m (by simpa using h)]
    rfl
theorem dig_at (st : St) {k : Nat} (h : k < 32) : ((bytesOf st).map byteV)[k]? = some (.int .u8 (st.list.getD (k / 4) 0 / 2 ^ (24 - 8 * (k % 4)) % 256 : Nat)) := by
  have e : k = 4 * (k / 4) + k % 4 := by omega
  have h8 : k / 4 < st.list.length := by show k / 4 < 8; omega
  unfold bytesOf
  rw [List.getElem?_map]
  conv => lhs; rw [e]
  rw [flat_at (k % 4) (by omega) st.list (k / 4) h8, be_at _ 4 (k % 4) (by omega), show 8 * (4 - 1 - k % 4) = 24 - 8 * (k % 4) by omega]
  show some (byteV _) = _
  unfold byteV
  rw [UInt8.toNat_ofNat']
theorem dat (D : List Value) (hD : 32 ≤ D.length) {k : Nat} (h : k < 32) : (D.take k ++ List.replicate (32 - k) (byteV 0))[k]? = some (byteV 0) := by
  rw [List.getElem?_append_right (by simp; omega), List.length_take, Nat.min_eq_left (by omega), Nat.sub_self, List.getElem?_replicate, if_pos (by omega)]
theorem dset (D : List Value) {k : Nat} (h : k < 32) {v : Value} (hv : D[k]? = some v) : (D.take k ++ List.replicate (32 - k) (byteV 0)).set k v = D.take (k + 1) ++ List.replicate (32 - (k + 1)) (byteV 0) := by
  obtain ⟨hk, rfl⟩ := List.getElem?_eq_some_iff.1 hv
  rw [List.set_append_right _ _ (by simp; omega), List.length_take, Nat.min_eq_left (by omega), Nat.sub_self]
  obtain ⟨m, hm⟩ : ∃ m, 32 - k = m + 1 := ⟨32 - k - 1, by omega⟩
  rw [hm, List.replicate_succ, List.set_cons_zero, List.take_succ_eq_append_getElem hk, show 32 - (k + 1) = m by omega, List.append_assoc]
  rfl
theorem cop_all (T : List UInt8) : cop T 64 = T.take 64 := by unfold cop; simp
end S
theorem BytesIn.but' {w w' : World} {C : Nat} {A : Option Addr} {c : Nat} {l : List UInt8} {o : Obj} (h : BytesIn w C A c l) (hC : C ≤ w.heap.size) (hb : S.But w.heap.size (w.alloc o) w') : BytesIn w' C A c l :=
  ⟨h.le, h.cap, h.none_, fun ad e j u hu => by
    obtain ⟨h1, h2⟩ := h.cells ad e j u hu
    refine ⟨h1, ?_⟩
    have hbl : Below w.heap.size w w' := ((Below.refl _ w).alloc (Nat.le_refl _) o).trans (hb.below (Nat.le_refl _) (by simp))
    rw [hbl.cell (by rw [add_block]; omega)]
    exact h2⟩
theorem BytesIn.below' {w w' : World} {B C kB : Nat} {A : Option Addr} {c : Nat} {l : List UInt8} (h : BytesIn w C A c l) (hb : Below B w w') (hk : kB < B) (hC : C ≤ kB) : BytesIn w' C A c l :=
  ⟨h.le, h.cap, h.none_, fun ad e j u hu => by
    obtain ⟨h1, h2⟩ := h.cells ad e j u hu
    refine ⟨h1, ?_⟩
    rw [hb.cell (by rw [add_block]; omega)]
    exact h2⟩
theorem BytesIn.but2 {w w' : World} {sB C kB : Nat} {A : Option Addr} {c : Nat} {l : List UInt8} (h : BytesIn w C A c l) (hb : S.But sB w w') (hs : kB < sB) (hk : kB < w.heap.size) (hC : C ≤ kB) : BytesIn w' C A c l :=
  h.below' (B := kB + 1) (hb.below (by omega) (by omega)) (Nat.lt_succ_self _) hC
set_option maxRecDepth 100000 in
set_option maxHeartbeats 2000000 in
theorem RSum_any (A : Option Addr) (c : Nat) (b : List UInt8) (w : World) (hin : BytesIn w w.heap.size A c b) (hlen : b.length ≤ 100000) :
    Calls Tryd.prog 25 #[.slice A b.length c] w fun e w' => e = .returned (.agg (S.digV b).toArray) ∧ Below w.heap.size w w' := by
  obtain ⟨D, HD⟩ : ∃ D, Hid (D = S.digV b) := ⟨_, Lib.hid rfl⟩
  rw [← HD.out]
  obtain ⟨N, HN⟩ : ∃ N, Hid (N = b.length) := ⟨_, Lib.hid rfl⟩
  have hN : N ≤ 100000 := by rw [HN.out]; exact hlen
  have HPad := RPad_yes N (by omega)
  rw [← HN.out]
  obtain ⟨pd, HPD⟩ : ∃ pd, Hid (pd = S.pad N) := ⟨_, Lib.hid rfl⟩
  rw [← HPD.out] at HPad
  have HPL := S.pad_len N
  have HZ := S.zeros_all N
  rw [← HPD.out] at HPL HZ
  obtain ⟨L, HL⟩ : ∃ L, Hid (L = pd.length) := ⟨_, Lib.hid rfl⟩
  rw [← HL.out] at HPad HPL HZ
  replace HPad := Lib.hid HPad
  clear hlen
  go_enter Tryd.func25, Tryd.ntmps25
  go_wp2_with fail
  refine (HPad.out _).mono ?_
  rintro e w1 ⟨v1, rfl, hown1, hb1⟩
  obtain ⟨A1, c1, rfl, hA1⟩ := S.own_slice hown1
  have hres1 : S.Row w1 w.heap.size 22 (List.replicate 32 (S.byteV 0)) := (S.Row.made w _ _ rfl rfl).below hb1 (by simp)
  have hb01 : Below w.heap.size w w1 := ((Below.refl _ w).alloc (Nat.le_refl _) _).trans (hb1.mono (by simp))
  have hin1 := hin.below hb01
  have hinP := BytesIn.of_own hown1
  have hown0 : (w1.alloc (.cells #[] 5)).ownsRow w1.heap.size 5 1 (.slice (some ⟨w1.heap.size, 0, none⟩) 0 0) ([] : List UInt8).length (([] : List UInt8).map S.byteV) := World.ownsRow_lit (base := w1.heap.size) (e := 5) (size := 1) w1 #[] 0 (Nat.le_refl _) (by decide) rfl
  have hb11 : Below w1.heap.size w1 (w1.alloc (.cells #[] 5)) := (Below.refl _ _).alloc (Nat.le_refl _) _
  have hin0 := hin.below (hb01.trans (hb11.mono hb01.size))
  have hbl : b.length ≤ 100000 := by rw [← HN.out]; exact hN
  have hpl : pd.length ≤ 100000 := by rw [← HL.out]; omega
  clear hb1 hown1 hin1
  go_wp2_with (at_builtin; (first
    | (refine push_bytes w1 (w1.alloc (.cells #[] 5)) rfl (.tmp 19) (.tmp 20) rfl w1.heap.size _ [] rfl hown0 w.heap.size A c N b HN.out rfl hin0 (Nat.le_refl _) hb11 (by simp) (by omega) ?_
       intro v2 w2 hown2 hb2 _
       rw [List.nil_append] at hown2
       obtain ⟨A2, c2, rfl, _⟩ := S.own_slice hown2)
    | (refine push_bytes w1 w2 rfl (.tmp 21) (.tmp 22) rfl w1.heap.size _ b rfl hown2 w1.heap.size A1 c1 L pd HL.out rfl (hinP.below hb2) (Nat.le_refl _) hb2 (by omega) (by omega) ?_
       intro v3 w3 hown3 hb3 _
       obtain ⟨A3, c3, rfl, _⟩ := S.own_slice hown3)))
  obtain ⟨AL, HAL⟩ : ∃ AL, Hid (AL = b ++ pd) := ⟨_, Lib.hid rfl⟩
  have hTL : b.length + pd.length = N + L := by rw [← HN.out, ← HL.out]
  have HALl := Lib.hid (show AL.length = N + L by rw [HAL.out, List.length_append, hTL])
  have hin3 := BytesIn.of_own hown3
  rw [← HAL.out] at hin3
  rw [hTL]
  have hb03 := hb01.trans (hb3.mono hb01.size)
  have hres3 := hres1.below hb3 hres1.lt
  clear hown3 hown2 hb2 hb3 hinP hown0 hb11 hin0 hbl hpl hA1 hTL
  have HKc := RConstants_any w3
  obtain ⟨KL, HKL⟩ : ∃ KL, Hid (KL = S.K.map S.wordV) := ⟨_, Lib.hid rfl⟩
  have HKi := Lib.hid (show (Tryd.prog.info? 50).map (·.size) = some KL.toArray.size by rw [HKL.out]; exact S.info_words)
  have HKn := Lib.hid (show KL.length = 64 by rw [HKL.out]; rfl)
  have HK1 := Lib.hid (show KL.toArray.all (·.oneCell') = true by rw [HKL.out]; exact S.wvals_one _)
  rw [← HKL.out] at HKc
  refine HKc.mono ?_
  rintro e w4 ⟨rfl, hb4⟩
  have hb04 := hb03.trans (hb4.mono hb03.size)
  have hres4 := hres3.below hb4 hres3.lt
  have hin4 := hin3.below hb4
  have hle34 := hb4.size
  clear HKc hb4 hin3
  go_wp2_with (refine S.wpList_store_but rfl 50 (.tmp 6) (.tmp 24) rfl w4.heap.size KL rfl rfl _ _ (S.Row.made _ _ (Array.replicate 64 (S.wordV 0)) rfl rfl) HKi.out (by rw [HKn.out]; rfl) HK1.out ?_; intro w5 hr5 hbut5)
  have hbut5' := S.But.below (C := w.heap.size) hbut5 (by have := hb04.size; omega) (by have := hb04.size; simp; omega)
  have hres5 := hbut5.row (hres4.alloc _) (by have := hres4.lt; omega)
  have hb05 := (hb04.alloc hb04.size (.cells (Array.replicate 64 (S.wordV 0)) 50)).trans hbut5'
  have hin5 := hin4.but' hle34 hbut5
  have hkB : w3.heap.size ≤ w4.heap.size := hle34
  have hk03 := hb03.size
  obtain ⟨kB, HkB⟩ : ∃ kB, Hid (kB = w4.heap.size) := ⟨_, Lib.hid rfl⟩
  rw [← HkB.out] at hr5 hkB ⊢
  clear hbut5 hbut5' hb04 hin4 hle34
  have HSc := RStart_any w5
  refine HSc.mono ?_
  rintro e w6 ⟨rfl, hb6⟩
  have hr6 := hr5.below hb6 hr5.lt
  have hb06 := hb05.trans (hb6.mono hb05.size)
  have hres6 := hres5.below hb6 hres5.lt
  have hin6 := hin5.below' hb6 hr5.lt hkB
  have hlt6 := hr6.lt
  clear HSc hb6 hr5 hin5 hb05
  have hC : w.heap.size < w3.heap.size := hres3.lt
  clear hres1 hres3 hres4 hres5
  go_wp2_with (refine S.wpList_store_but rfl 56 (.tmp 7) (.tmp 25) rfl w6.heap.size (S.vals S.start).toList rfl rfl _ _ (S.Row.made _ _ (Array.replicate 8 (S.wordV 0)) rfl rfl) (S.info_vals _) rfl (S.vals_one _) ?_; intro w7 hr7 hbut7)
  have hk7 := hbut7.row (hr6.alloc _) (by omega)
  have hres7 := hbut7.row (hres6.alloc _) (by have := hres6.lt; omega)
  have hin7 := hin6.but' (by omega) hbut7
  have hb07 := (hb06.alloc hb06.size (.cells (Array.replicate 8 (S.wordV 0)) 56)).trans (S.But.below (C := w.heap.size) hbut7 (by have := hb06.size; omega) (by have := hb06.size; simp; omega))
  obtain ⟨sB, HsB⟩ : ∃ sB, Hid (sB = w6.heap.size) := ⟨_, Lib.hid rfl⟩
  obtain ⟨C, HC⟩ : ∃ C, Hid (C = w3.heap.size) := ⟨_, Lib.hid rfl⟩
  rw [← HsB.out] at hr7 hlt6
  rw [← HsB.out]
  rw [← HC.out] at hin7 hkB hC
  obtain ⟨NB, hNB⟩ : ∃ NB, N + L = 64 * NB := ⟨(N + L) / 64, by omega⟩
  replace hNB := Lib.hid hNB
  clear hbut7 hr6 hres6 hin6 hb06 hk03 hb03 hb01
  go_wp2_with fail
  go_loopw [8] (fun i wr => ∃ j : Nat, j ≤ NB ∧ i = .int .i64 ((64 * j : Nat) : Int) ∧ S.Row wr kB 50 KL ∧ S.Row wr sB 56 (S.vals (S.after AL j)).toList ∧ BytesIn wr C A3 c3 AL ∧ S.Row wr w.heap.size 22 (List.replicate 32 (S.byteV 0)) ∧ Below w.heap.size w wr) (fun i _ => N + L + 64 - (intOf i).toNat)
  case atStart => exact ⟨0, Nat.zero_le _, rfl, hk7, hr7, hin7, hres7, hb07⟩
  case round =>
    clear hk7 hr7 hin7 hres7 hb07
    obtain ⟨j, hj, rfl, hk, hs, hin, hres, hbel⟩ := hrel
    by_cases hlt : j < NB
    · have hx := hs.lt
      obtain ⟨q, hq⟩ : ∃ q : Nat, q = 64 * j := ⟨_, rfl⟩
      rw [← hq]
      have hqN : (q : Int) < (N : Int) + (L : Int) := by have := hNB.out; omega
      have HQ := Lib.hid hq
      have hTl : 64 ≤ (AL.drop q).length := by rw [List.length_drop, HALl.out, hq]; have := hNB.out; omega
      obtain ⟨xB, HxB⟩ : ∃ xB, Hid (xB = wr.heap.size) := ⟨_, Lib.hid rfl⟩
      go_wp2_with fail
      rw [← HxB.out] at hx ⊢
      go_loopw [10] (fun i wz => ∃ n : Nat, n ≤ 64 ∧ i = .int .i64 n ∧ S.Row wz xB 60 ((S.cop (AL.drop q) n).map S.byteV) ∧ S.But xB (wr.alloc (.cells (Array.replicate 64 (S.byteV 0)) 60)) wz) (fun i _ => 64 - (intOf i).toNat)
      case atStart => exact ⟨0, Nat.zero_le _, rfl, S.Row.made _ _ _ HxB.out rfl, S.But.refl _ _⟩
      case round =>
        obtain ⟨n, hn, rfl, hrz, hbz⟩ := hrel
        by_cases hn64 : n < 64
        · have hbz' := hbz
          rw [HxB.out] at hbz'
          have hinz := hin.but' (by have := HxB.out; omega) hbz'
          obtain ⟨p, hp⟩ : ∃ p : Nat, p = q + n := ⟨_, rfl⟩
          have hpl : p < AL.length := by rw [HALl.out, hp, hq]; have := hNB.out; omega
          obtain ⟨ad, hA, hc⟩ := hinz.at_ hpl
          obtain ⟨y, Y⟩ : ∃ y, Hid (y = AL[p].toNat) := ⟨_, Lib.hid rfl⟩
          rw [← Y.out] at hc
          have HS := Lib.hid (show ((S.cop (AL.drop q) n).map S.byteV).set n (.int .u8 (y : Nat)) = (S.cop (AL.drop q) (n + 1)).map S.byteV by
            have h0 := S.cop_set hTl hn64
            rw [show (AL.drop q)[n] = AL[p] by rw [List.getElem_drop]; simp [hp]] at h0
            rw [Y.out]
            exact h0)
          have cz := hrz.cell (S.cop_at hTl hn64)
          have fz := hrz.frozen n
          have hpz : (q : Int) + (n : Int) = (p : Int) := by omega
          have hpN : (p : Int) < (N : Int) + (L : Int) := by have := hNB.out; omega
          have HP := Lib.hid hp
          have HQ2 := Lib.hid hq
          have HTl := Lib.hid hTl
          have HIN := Lib.hid hin
          subst hA
          clear hp hq hTl hinz hbz' hk hs hres hbel hin
          go_wp2_with fail
          go_roundw
          case rel => first | exact ⟨n + 1, by omega, by go_num, HS.out ▸ hrz.set n _, hbz.setCell n none _⟩ | ((repeat apply Exists.intro); exact ⟨⟨n + 1, by omega, by go_num, HS.out ▸ hrz.set n _, hbz.setCell n none _⟩, rfl⟩)
          case measure => simp [intOf]; omega
        · obtain rfl : n = 64 := by omega
          rw [S.cop_all] at hrz
          obtain ⟨X, HX⟩ : ∃ X, Hid (X = (AL.drop q).take 64) := ⟨_, Lib.hid rfl⟩
          have hXl : X.length = 64 := by rw [HX.out, List.length_take]; omega
          rw [← HX.out] at hrz
          have hok := S.after_ok AL j
          have HN1 := Lib.hid (show S.after AL (j + 1) = S.block (S.after AL j) X by rw [HX.out, hq]; rfl)
          have HBc := fun w => rblock_any (S.after AL j) hok X hXl w
          rw [← HKL.out, ← HN1.out] at HBc
          have hkz := hbz.row (hk.alloc _) (by omega)
          have hsz := hbz.row (hs.alloc _) (by omega)
          have hresz := hbz.row (hres.alloc _) (by omega)
          have hbz' := hbz
          rw [HxB.out] at hbz'
          have hinz := hin.but' (by have := HxB.out; omega) hbz'
          have hbelz := (hbel.alloc hbel.size (.cells (Array.replicate 64 (S.byteV 0)) 60)).trans (S.But.below (C := w.heap.size) hbz (by have := hbel.size; have := HxB.out; omega) (by have := hbel.size; simp; omega))
          have HXi := Lib.hid (show (Tryd.prog.info? 60).map (·.size) = some (X.map S.byteV).toArray.size by rw [S.info_bytes]; simp [hXl])
          obtain ⟨st1, HST1⟩ : ∃ st1, Hid (st1 = S.after AL (j + 1)) := ⟨_, Lib.hid rfl⟩
          rw [← HST1.out] at HBc
          generalize S.after AL j = st at hsz HBc
          replace HBc := Lib.hid HBc
          clear hTl hk hs hres hin hbel hok hXl hbz hbz'
          go_wp2_with (first
            | (refine wpList_load_row rfl 50 (.tmp 6) rfl kB rfl _ KL.toArray (0, 0) _ hkz Tryd.underlying50 rfl HKi.out ?_)
            | (refine wpList_load_row rfl 56 (.tmp 7) rfl sB rfl _ (S.vals st) (0, 0) _ hsz Tryd.underlying56 rfl (S.info_vals _) ?_)
            | (refine wpList_load_row rfl 60 (.tmp 9) rfl xB rfl _ (X.map S.byteV).toArray (0, 0) _ hrz Tryd.underlying60 rfl HXi.out ?_))
          refine (HBc.out _).mono ?_
          rintro e w8 ⟨rfl, hb8⟩
          have hk8 := hkz.below hb8 hkz.lt
          have hs8 := hsz.below hb8 hsz.lt
          have hres8 := hresz.below hb8 hresz.lt
          have hxlt := hrz.lt
          have hin8 := hinz.below' hb8 hkz.lt hkB
          have hbel8 := hbelz.trans (hb8.mono hbelz.size)
          clear hkz hsz hresz hrz hinz hbelz hb8 HBc
          go_wp2_with (refine S.wpList_store_but rfl 56 (.tmp 7) (.tmp 47) rfl sB (S.vals st1).toList rfl rfl _ _ hs8 (S.info_vals _) rfl (S.vals_one _) ?_; intro w9 hs9 hbut9)
          have hk9 := hbut9.row hk8 (by omega)
          have hres9 := hbut9.row hres8 (by omega)
          have hin9 := hin8.but2 hbut9 (by omega) hk8.lt hkB
          have hbel9 := hbel8.trans (S.But.below (C := w.heap.size) hbut9 (by omega) hbel8.size)
          clear hk8 hs8 hres8 hin8 hbel8 hbut9
          rw [HST1.out] at hs9
          go_roundw
          case rel => first | exact ⟨j + 1, by omega, by (try congr 1); (try omega), hk9, hs9, hin9, hres9, hbel9⟩ | ((repeat apply Exists.intro); exact ⟨⟨j + 1, by omega, by (try congr 1); (try omega), hk9, hs9, hin9, hres9, hbel9⟩, rfl⟩)
          case measure => simp [intOf]; omega
    · obtain rfl : j = NB := by omega
      clear hk hin hlt
      have hsl := hs.lt
      have hok := S.after_ok AL j
      have HDD := Lib.hid (show D = (S.bytesOf (S.after AL j)).map S.byteV by
        rw [HD.out, S.digV, S.digest, ← HN.out, ← HPD.out, ← HAL.out, HALl.out, hNB.out, Nat.mul_div_cancel_left _ (by decide)])
      generalize S.after AL j = st at hs hok HDD
      obtain ⟨q, hq⟩ : ∃ q : Nat, q = 64 * j := ⟨_, rfl⟩
      have hqe : (q : Int) = (N : Int) + (L : Int) := by have := hNB.out; omega
      rw [← hq]
      clear hq hNB
      obtain ⟨oB, HoB⟩ : ∃ oB, Hid (oB = wr.heap.size) := ⟨_, Lib.hid rfl⟩
      have hDl : D.length = 32 := by rw [HD.out, S.digV_len]
      have hol : sB < oB := by rw [HoB.out]; exact hsl
      have hwo : w.heap.size < oB := by rw [HoB.out]; exact hres.lt
      have HDi := Lib.hid (show (Tryd.prog.info? 22).map (·.size) = some D.toArray.size by rw [HD.out]; exact S.digV_info b)
      have HD1 := Lib.hid (show D.toArray.all (·.oneCell') = true by rw [HD.out]; exact S.digV_one b)
      go_wp2_with fail
      rw [← HoB.out]
      go_loopw [12] (fun i wz => ∃ k : Nat, k ≤ 32 ∧ i = .int .i64 k ∧ S.Row wz oB 22 (D.take k ++ List.replicate (32 - k) (S.byteV 0)) ∧ S.Row wz sB 56 (S.vals st).toList ∧ S.Row wz w.heap.size 22 (List.replicate 32 (S.byteV 0)) ∧ Below w.heap.size w wz) (fun i _ => 32 - (intOf i).toNat)
      case atStart => exact ⟨0, Nat.zero_le _, rfl, S.Row.made _ _ _ HoB.out rfl, hs.alloc _, hres.alloc _, hbel.alloc hbel.size _⟩
      case round =>
        clear hs hres hbel
        obtain ⟨k, hk, rfl, ho, hs, hres, hbel⟩ := hrel
        by_cases hlt : k < 32
        · obtain ⟨m, hm⟩ : ∃ m : Nat, m = k / 4 := ⟨_, rfl⟩
          obtain ⟨r, hr⟩ : ∃ r : Nat, r = k % 4 := ⟨_, rfl⟩
          obtain ⟨e, he⟩ : ∃ e : Nat, e = 24 - 8 * r := ⟨_, rfl⟩
          have hm8 : m < 8 := by omega
          have cs := hs.cell (S.vals_at st hm8)
          have HG := Lib.hid (S.dig_at st hlt)
          rw [← HDD.out, ← hm, ← hr, ← he] at HG
          have co := ho.cell (S.dat D (by omega) hlt)
          have fo := ho.frozen k
          have HS := Lib.hid (S.dset D hlt HG.out)
          have hx := S.list_lt hok hm8
          obtain ⟨x, X⟩ : ∃ x, Hid (x = st.list.getD m 0) := ⟨_, Lib.hid rfl⟩
          rw [← X.out] at cs HS hx
          have HX := Lib.hid (show ((x : Int) / 2 ^ e) % 256 = ((x / 2 ^ e % 256 : Nat) : Int) by simp)
          have hm1 : (k : Int) / 4 = (m : Int) := by omega
          have hr1 : (k : Int) % 4 = (r : Int) := by omega
          have he1 : (24 : Int) - 8 * (r : Int) = (e : Int) := by omega
          have hr4 : r < 4 := by omega
          have he24 : e ≤ 24 := by omega
          have HM := Lib.hid hm
          have HR := Lib.hid hr
          have HE := Lib.hid he
          clear hm hr he HG
          go_wp2_with fail
          rw [HX.out]
          have hx' : oB ≠ sB := by omega
          go_roundw
          case rel => first | exact ⟨k + 1, by omega, by go_num, HS.out ▸ ho.set k _, hs.setOther _ (by simp; omega) _, hres.setOther _ (by simp; omega) _, hbel.setCell (by simp; omega) _⟩ | ((repeat apply Exists.intro); exact ⟨⟨k + 1, by omega, by go_num, HS.out ▸ ho.set k _, hs.setOther _ (by simp; omega) _, hres.setOther _ (by simp; omega) _, hbel.setCell (by simp; omega) _⟩, rfl⟩)
          case measure => simp [intOf]; omega
        · obtain rfl : k = 32 := by omega
          have ho' : S.Row wr oB 22 D.toArray.toList := by simpa [List.take_of_length_le (Nat.le_of_eq hDl)] using ho
          have HBf := Lib.hid hbel
          have HDl := Lib.hid hDl
          clear ho hs hbel hlt hk hDl
          go_wp2_with (first
            | (refine wpList_load_row rfl 22 (.tmp 11) rfl oB rfl _ D.toArray (0, 0) _ ho' Tryd.underlying22 rfl HDi.out ?_)
            | (refine S.wpList_store_but rfl 22 (.tmp 2) (.tmp 65) rfl w.heap.size D rfl rfl _ _ hres HDi.out (by rw [HDl.out]; rfl) HD1.out ?_; intro w9 hr9 hbut9))
          exact bodyPost_ret (v := .agg D.toArray) (results_cell_row Tryd.results25 _ _ w.heap.size _ _ _ _ rfl hr9 Tryd.underlying22 rfl HDi.out) rfl ⟨rfl, HBf.out.trans (hbut9.below (Nat.le_refl _) HBf.out.size)⟩
end Go.Proofs.YtgpgnfdbjljljaaDoor
