/- The walk of the law HmacAccepts. -/
import Derived.Test.YtgpgnfdbjljljaaDoorHmShown
import Derived.StillTailTactics
namespace Go.Proofs.YtgpgnfdbjljljaaDoor
open Go.RowKit
theorem own_some {w : World} {base n : Nat} {v : Value} {xs : List Value} (h : w.ownsRow base 5 1 v n xs) (hn : 0 < n) : ∃ g c, v = .slice (some ⟨g, 0, none⟩) n c ∧ base ≤ g ∧ g < w.heap.size := by
  rcases h.2 with ⟨h1, h2⟩ | ⟨g, cap, cur, h1, hg, h3, _⟩
  · omega
  · exact ⟨g, cap, h1, hg, (Array.getElem?_eq_some_iff.1 h3).1⟩
theorem BytesIn.take {w : World} {B : Nat} {A : Option Addr} {c : Nat} {l : List UInt8} (h : BytesIn w B A c l) (k : Nat) : BytesIn w B A c (l.take k) := by
  refine ⟨by rw [List.length_take]; have := h.le; omega, h.cap, fun e => ?_, fun ad e j u hu => ?_⟩
  · obtain ⟨rfl, h2⟩ := h.none_ e
    exact ⟨by simp, h2⟩
  · rw [List.getElem?_take] at hu
    split at hu
    · exact h.cells ad e j u hu
    · cases hu
namespace M
theorem bit_ne (x : UInt8) {k : Nat} (h : k < 8) : UInt8.ofNat (x.toNat ^^^ 2 ^ k) ≠ x := by
  intro e
  have h1 : x.toNat ^^^ 2 ^ k < 256 := Nat.xor_lt_two_pow (n := 8) x.toNat_lt (Nat.pow_lt_pow_right (by decide) h)
  have h2 := congrArg UInt8.toNat e
  rw [UInt8.toNat_ofNat', Nat.mod_eq_of_lt (by simpa using h1)] at h2
  have h3 : x.toNat ^^^ (x.toNat ^^^ 2 ^ k) = x.toNat ^^^ x.toNat := by rw [h2]
  rw [← Nat.xor_assoc, Nat.xor_self, Nat.zero_xor] at h3
  exact absurd h3 (Nat.ne_of_gt (Nat.two_pow_pos k))
theorem pow_mod {p : Nat} (h : p < 8) : (2 : Int) ^ p % 256 = ((2 ^ p : Nat) : Int) := by
  obtain rfl | rfl | rfl | rfl | rfl | rfl | rfl | rfl : p = 0 ∨ p = 1 ∨ p = 2 ∨ p = 3 ∨ p = 4 ∨ p = 5 ∨ p = 6 ∨ p = 7 := by omega
  all_goals rfl
theorem set_ne {l : List UInt8} {k : Nat} {u : UInt8} (h : k < l.length) (hu : u ≠ l[k]) : l ≠ l.set k u := by
  intro e
  have h1 : (l.set k u)[k]? = some l[k] := by rw [← e]; exact List.getElem?_eq_getElem h
  rw [List.getElem?_set_self h] at h1
  exact hu (Option.some.inj h1)
end M
set_option linter.unusedSimpArgs false in
set_option maxRecDepth 100000 in
set_option maxHeartbeats 4000000 in
theorem HmacAccepts_walk (A A2 : Option Addr) (c c2 : Nat) (key b : List UInt8) (x y : Nat) (hx : x < 256) (hy : y < 256) (w : World) (hK : S.SLaid w) (hin : BytesIn w w.heap.size A c key) (hin2 : BytesIn w w.heap.size A2 c2 b) :
    Calls Tryd.prog 9 #[.slice A key.length c, .slice A2 b.length c2, .agg #[.int .u8 x, .int .u8 y]] w fun e w' => e = .returned (.bool true) ∧ Below w.heap.size w w' := by
  have h2 := hK.lt.1
  have HK := Lib.hid hK
  by_cases hs : key.length ≤ 300 ∧ b.length ≤ 300
  · have HT1 := Lib.hid (fun w hw hi hi2 => HTag_any A A2 c c2 key b w hw hi hi2 (by omega) (by omega))
    have HNew := Lib.hid (fun w hw hi => MNew_any A c key w hw hi (by omega))
    have HWr := Lib.hid (fun B H w hw hH hm hi hne => MWrite_any B H (M.block key) [] A2 c2 b w hw hH hm hi hne (by simp; omega))
    have HV := Lib.hid (fun (A8 : Option Addr) (c8 : Nat) (t : List UInt8) (ht : t.length ≤ 300) w hw hi hi2 hi3 => HVerify_any A A2 A8 c c2 c8 key b t w hw hi hi2 hi3 (by omega) (by omega) (by omega))
    have HMV := Lib.hid (fun (B H : Nat) (A8 : Option Addr) (c8 : Nat) (t : List UInt8) (ht : t.length ≤ 300) w hw hm hi => MVerify_any B H (M.block key) b A8 c8 t w hw hm hi (by omega) (by omega))
    obtain ⟨d, Hd⟩ : ∃ d, Hid (d = M.tag key b) := ⟨_, Lib.hid rfl⟩
    have Hdl := Lib.hid (show d.length = 32 by rw [Hd.out, M.tag_len])
    have HdI := Lib.hid (show (Tryd.prog.info? 22).map (·.size) = some (d.map S.byteV).toArray.size by rw [S.info_d32]; simp [Hdl.out])
    rw [show M.tagOf (M.block key) b = d from Hd.out.symm] at HMV
    rw [← Hd.out] at HT1 HV
    obtain ⟨N1, HN1⟩ : ∃ N, Hid (N = key.length) := ⟨_, Lib.hid rfl⟩
    obtain ⟨N2, HN2⟩ : ∃ N, Hid (N = b.length) := ⟨_, Lib.hid rfl⟩
    rw [← HN1.out] at hs HT1 HNew HV ⊢
    rw [← HN2.out] at hs HT1 HWr HV ⊢
    have hn1 : ¬ (300 : Int) < (N1 : Int) := by omega
    have hn2 : ¬ (300 : Int) < (N2 : Int) := by omega
    have HI := Lib.hid hin
    have HI2 := Lib.hid hin2
    clear hin hin2 hK hs
    go_enter Tryd.func9, Tryd.ntmps9
    go_wp2_with fail
    have hb0 : Below w.heap.size w (w.alloc (.cells #[.int .u8 x, .int .u8 y] 69)) := (Below.refl _ _).alloc (Nat.le_refl _) _
    have hrx0 : S.Row (w.alloc (.cells #[.int .u8 x, .int .u8 y] 69)) w.heap.size 69 [.int .u8 x, .int .u8 y] := S.Row.made _ _ _ rfl rfl
    refine (HT1.out _ (HK.out.below hb0 (by omega)) ((HI.out.below hb0).more hb0.size) ((HI2.out.below hb0).more hb0.size)).mono ?_
    rintro e w1 ⟨rfl, hb1⟩
    have hrx1 := hrx0.below hb1 hrx0.lt
    have hb01 := hb0.trans (hb1.mono hb0.size)
    have h0M : (0 : Nat) ≤ 1000000 := by omega
    have hdM : d.length ≤ 1000000 := by rw [Hdl.out]; omega
    clear hb1 hb0 hrx0
    rcases (show x % 4 = 0 ∨ x % 4 = 1 ∨ x % 4 = 2 ∨ x % 4 = 3 by omega) with hm | hm | hm | hm
    · have hmi : (x : Int) % 4 = 0 := by omega
      have hmt : (x : Int).tmod 4 = 0 := by rw [Int.tmod_eq_emod_of_nonneg (by omega)]; omega
      clear hm
      go_wp2_with (first
        | (refine S.wpList_store_but rfl 22 (.tmp 7) (.tmp 23) rfl w1.heap.size (d.map S.byteV) rfl rfl _ _ (S.Row.made (l := List.replicate 32 (S.byteV 0)) _ _ _ rfl rfl) HdI.out (by simp [Hdl.out]) (S.bvals_one _) ?_; intro w2 hr2 hbut2; have hrx2 := hbut2.row (hrx1.alloc _) (by have := hrx1.lt; omega); have hb02 := (hb01.alloc hb01.size (.cells (Array.replicate 32 (S.byteV 0)) 22)).trans (hbut2.below (C := w.heap.size) hb01.size (by have := hb01.size; simp; omega)); clear hbut2 hb01; have hown0 : (w2.alloc (.cells #[] 5)).ownsRow w2.heap.size 5 1 (.slice (some ⟨w2.heap.size, 0, none⟩) 0 0) ([] : List UInt8).length (([] : List UInt8).map S.byteV) := World.ownsRow_lit (base := w2.heap.size) (e := 5) (size := 1) w2 #[] 0 (Nat.le_refl _) (by decide) rfl; have hb22 : Below w2.heap.size w2 (w2.alloc (.cells #[] 5)) := (Below.refl _ _).alloc (Nat.le_refl _) _; have hinD : BytesIn (w2.alloc (.cells #[] 5)) (w1.heap.size + 1) (some ⟨w1.heap.size, 0, none⟩) 32 d := (by have h9 := M.in_row (hr2.alloc (.cells #[] 5)) (Nat.lt_succ_self _) (by rw [Hdl.out]; omega); rwa [Hdl.out] at h9))
        | (at_builtin; refine push_bytes w2 (w2.alloc (.cells #[] 5)) rfl (.tmp 24) (.tmp 25) rfl w2.heap.size _ [] rfl hown0 (w1.heap.size + 1) (some ⟨w1.heap.size, 0, none⟩) 32 32 d Hdl.out.symm rfl hinD (Nat.le_refl _) hb22 h0M hdM ?_; intro v3 w3 hown3 hb3 _; rw [List.nil_append, Hdl.out] at hown3; have hrx3 := hrx2.below hb3 hrx2.lt; have cx0 := hrx3.cell (j := 0) (v := .int .u8 x) rfl; have cx1 := hrx3.cell (j := 1) (v := .int .u8 y) rfl))
      obtain ⟨A8, c8, rfl, _⟩ := S.own_slice hown3
      obtain ⟨t, ht⟩ : ∃ t, t = d := ⟨_, rfl⟩
      obtain ⟨w8, hw8⟩ : ∃ w8, w8 = w3 := ⟨_, rfl⟩
      have hin8 := Lib.hid (BytesIn.of_own hown3)
      have hb8 := hb02.trans (hb3.mono hb02.size)
      have htl : t.length ≤ 300 := by rw [ht, Hdl.out]; omega
      have HLT := Lib.hid (show t.length = 32 by rw [ht, Hdl.out])
      have HWV := Lib.hid (show M.code (decide (d = t)) = 0 by rw [ht, decide_eq_true rfl]; rfl)
      rw [← ht, ← hw8] at hin8
      rw [← hw8] at hb8 ⊢
      clear hown3 hb3 hb02 hr2 hrx2 hrx3 cx0 cx1 hown0 hb22 hinD ht hw8
      have HW8 := Lib.hid hb8
      clear hb8
      go_wp2_with fail
      refine (HNew.out _ (HK.out.below HW8.out (by omega)) ((HI.out.below HW8.out).more HW8.out.size)).mono ?_
      rintro e w9 ⟨B, H, rfl, hm9, hb9, hB, hH⟩
      have hsz8 := HW8.out.size
      have hb89 := hb9.size
      have HW9 := Lib.hid (HW8.out.trans (hb9.mono HW8.out.size))
      have hin9 := Lib.hid (hin8.out.below hb9)
      clear hb9
      go_wp2_with fail
      have hinb := HI2.out.below HW9.out
      refine (HWr.out B H _ (HK.out.below HW9.out (by omega)) (by omega) hm9 (hinb.more HW9.out.size) (fun h0 => hinb.apart (C := w.heap.size) (by omega) (by rw [← HN2.out]; exact h0))).mono ?_
      rintro e w10 ⟨rfl, hm10, hbut10⟩
      rw [List.nil_append] at hm10
      have HW10 := Lib.hid (HW9.out.trans (hbut10.below (C := w.heap.size) (by omega) HW9.out.size))
      have hbut10sz := Nat.le_trans hb89 hbut10.size
      have hin10 := Lib.hid ((hin9.out.below (hbut10.below (C := w8.heap.size) hH hb89)).more hbut10sz)
      clear hm9 hinb hin9 hbut10
      go_wp2_with fail
      have hv := HV.out A8 c8 t htl w10 (HK.out.below HW10.out (by omega)) ((HI.out.below HW10.out).more HW10.out.size) ((HI2.out.below HW10.out).more HW10.out.size) hin10.out
      rw [HLT.out, HWV.out] at hv
      refine hv.mono ?_
      rintro e w11 ⟨rfl, hb11⟩
      have HW11 := Lib.hid (HW10.out.trans (hb11.mono HW10.out.size))
      have hm11 := hm10.below hb11 hm10.row.lt hm10.hash.lt
      have hin11 := Lib.hid ((hin10.out.below hb11).more hb11.size)
      clear hv hb11 hm10 hin10
      go_wp2_with fail
      have hv := HMV.out B H A8 c8 t htl w11 (HK.out.below HW11.out (by omega)) hm11 hin11.out
      rw [HLT.out, HWV.out] at hv
      refine hv.mono ?_
      rintro e w12 ⟨rfl, hb12⟩
      have HW12 := Lib.hid (HW11.out.trans (hb12.mono HW11.out.size))
      clear hv hb12 hm11 hin11
      go_wp2_with fail
      refine (hshown_any _ (HK.out.below HW12.out (by omega))).mono ?_
      rintro e w13 ⟨rfl, hb13⟩
      have HW13 := Lib.hid (HW12.out.trans (hb13.mono HW12.out.size))
      clear hb13
      go_wp2_with fail
      go_ret
      exact ⟨rfl, HW13.out⟩
    · have hmi : (x : Int) % 4 = 1 := by omega
      have hmt : (x : Int).tmod 4 = 1 := by rw [Int.tmod_eq_emod_of_nonneg (by omega)]; omega
      clear hm
      obtain ⟨q, hq⟩ : ∃ q, q = y / 8 := ⟨_, rfl⟩
      obtain ⟨p, hp⟩ : ∃ p, p = y % 8 := ⟨_, rfl⟩
      have hq1 : (y : Int) / 8 = (q : Int) := by omega
      have hp1 : (y : Int) % 8 = (p : Int) := by omega
      have hp2 : (y : Int).tmod 8 = (p : Int) := by rw [Int.tmod_eq_emod_of_nonneg (by omega)]; omega
      have hq3 : q < 32 := by omega
      have hq4 : (q : Int) < 32 := by omega
      have hp4 : (p : Int) < 8 := by omega
      have hp3 : p < 8 := by omega
      have hqw : IntKind.u8.wrap (q : Int) = (q : Int) := IntWalk.u8_in _ (by omega)
      have hpw : IntKind.u8.wrap (p : Int) = (p : Int) := IntWalk.u8_in _ (by omega)
      clear hp hq
      go_wp2_with (first
        | (refine S.wpList_store_but rfl 22 (.tmp 7) (.tmp 23) rfl w1.heap.size (d.map S.byteV) rfl rfl _ _ (S.Row.made (l := List.replicate 32 (S.byteV 0)) _ _ _ rfl rfl) HdI.out (by simp [Hdl.out]) (S.bvals_one _) ?_; intro w2 hr2 hbut2; have hrx2 := hbut2.row (hrx1.alloc _) (by have := hrx1.lt; omega); have hb02 := (hb01.alloc hb01.size (.cells (Array.replicate 32 (S.byteV 0)) 22)).trans (hbut2.below (C := w.heap.size) hb01.size (by have := hb01.size; simp; omega)); clear hbut2 hb01; have hown0 : (w2.alloc (.cells #[] 5)).ownsRow w2.heap.size 5 1 (.slice (some ⟨w2.heap.size, 0, none⟩) 0 0) ([] : List UInt8).length (([] : List UInt8).map S.byteV) := World.ownsRow_lit (base := w2.heap.size) (e := 5) (size := 1) w2 #[] 0 (Nat.le_refl _) (by decide) rfl; have hb22 : Below w2.heap.size w2 (w2.alloc (.cells #[] 5)) := (Below.refl _ _).alloc (Nat.le_refl _) _; have hinD : BytesIn (w2.alloc (.cells #[] 5)) (w1.heap.size + 1) (some ⟨w1.heap.size, 0, none⟩) 32 d := (by have h9 := M.in_row (hr2.alloc (.cells #[] 5)) (Nat.lt_succ_self _) (by rw [Hdl.out]; omega); rwa [Hdl.out] at h9))
        | (at_builtin; refine push_bytes w2 (w2.alloc (.cells #[] 5)) rfl (.tmp 24) (.tmp 25) rfl w2.heap.size _ [] rfl hown0 (w1.heap.size + 1) (some ⟨w1.heap.size, 0, none⟩) 32 32 d Hdl.out.symm rfl hinD (Nat.le_refl _) hb22 h0M hdM ?_; intro v3 w3 hown3 hb3 _; rw [List.nil_append, Hdl.out] at hown3; obtain ⟨g8, c8, rfl, hg8, hg8l⟩ := own_some hown3 (by omega); have hin3 := BytesIn.of_own hown3; have hcap3 := hin3.le; rw [Hdl.out] at hcap3; have hcap4 := hin3.cap; unfold maxLen at hcap4; have hrx3 := hrx2.below hb3 hrx2.lt; have cx0 := hrx3.cell (j := 0) (v := .int .u8 x) rfl; have cx1 := hrx3.cell (j := 1) (v := .int .u8 y) rfl))
      have hql : q < d.length := by rw [Hdl.out]; exact hq3
      have hcq := (hown3.cellAt q hq3).trans (show (d.map S.byteV)[q]? = some (.int .u8 (d[q].toNat : Int)) by rw [List.getElem?_map, List.getElem?_eq_getElem hql]; rfl)
      have hfq := hown3.frozenAt q
      have hxor := u8_xor_nat d[q].toNat (2 ^ p) d[q].toNat_lt (Nat.pow_lt_pow_right (by decide) hp3)
      refine wp_region_still_tail 16 (by kernel_rfl) (by kernel_rfl) ?_
      simp only [List.take_succ_cons, List.take_zero, List.drop_succ_cons, List.drop_zero]
      repeat still_step
      refine wpStill_nil ?_
      change wpList _ _ _ _ _ w3.drew
      have hcq' : w3.drew.cell? ⟨g8, q, none⟩ = some (.int .u8 (d[q].toNat : Int)) := by simpa using hcq
      have hfq' : w3.drew.frozen? ⟨g8, q, none⟩ = false := by simpa using hfq
      obtain ⟨u, hu⟩ : ∃ u, u = UInt8.ofNat (d[q].toNat ^^^ 2 ^ p) := ⟨_, rfl⟩
      have hpow : 2 ^ p < 256 := (show 2 ^ p < 2 ^ 8 from Nat.pow_lt_pow_right (by decide) hp3)
      have HVAL := Lib.hid (show Value.int .u8 (bits .xor .u8 (d[q].toNat : Int) ((2 : Int) ^ p % 256)) = S.byteV u by
        have e1 := M.pow_mod hp3
        have e2 : d[q].toNat ^^^ 2 ^ p < 256 := Nat.xor_lt_two_pow (n := 8) d[q].toNat_lt hpow
        rw [e1, hxor, hu, S.byteV, UInt8.toNat_ofNat', Nat.mod_eq_of_lt (by simpa using e2)])
      have HNE := Lib.hid (M.set_ne (u := u) hql (by rw [hu]; exact M.bit_ne d[q] hp3))
      have hst := (hown3.stored q (S.byteV u)).1
      have hgr := (hown3.stored q (S.byteV u)).2
      rw [← List.map_set] at hst
      have hb4 := hb3.setCell (p := ⟨g8, q, none⟩) hg8 (S.byteV u)
      clear hpow hxor hu hgr
      go_wp2_with fail
      rw [HVAL.out]
      have hown4 : (w3.setCell ⟨g8, q, none⟩ (S.byteV u)).drew.ownsRow w2.heap.size 5 1 (.slice (some ⟨g8, 0, none⟩) 32 c8) 32 ((d.set q u).map S.byteV) := hst
      obtain ⟨t, ht⟩ : ∃ t, t = d.set q u := ⟨_, rfl⟩
      obtain ⟨w8, hw8⟩ : ∃ w8, w8 = (w3.setCell ⟨g8, q, none⟩ (S.byteV u)).drew := ⟨_, rfl⟩
      have hin8 := Lib.hid (BytesIn.of_own hown4)
      have hb8 := (hb02.trans (hb4.mono hb02.size)).drew
      have htl : t.length ≤ 300 := by rw [ht, List.length_set, Hdl.out]; omega
      have HLT := Lib.hid (show t.length = 32 by rw [ht, List.length_set, Hdl.out])
      have HWV := Lib.hid (show M.code (decide (d = t)) = 12 by rw [decide_eq_false (by rw [ht]; exact HNE.out)]; rfl)
      rw [← ht, ← hw8] at hin8
      rw [← hw8] at hb8 ⊢
      clear hown3 hown4 hst hb3 hb4 hb02 hr2 hrx2 hrx3 cx0 cx1 hown0 hb22 hinD ht hw8 hcq hfq hcq' hfq' HVAL HNE hin3
      obtain ⟨A8, HA8⟩ : ∃ A8, Hid (A8 = some (⟨g8, 0, none⟩ : Addr)) := ⟨_, Lib.hid rfl⟩
      rw [← HA8.out] at hin8 ⊢
      have HW8 := Lib.hid hb8
      clear hb8
      refine (HNew.out _ (HK.out.below HW8.out (by omega)) ((HI.out.below HW8.out).more HW8.out.size)).mono ?_
      rintro e w9 ⟨B, H, rfl, hm9, hb9, hB, hH⟩
      have hsz8 := HW8.out.size
      have hb89 := hb9.size
      have HW9 := Lib.hid (HW8.out.trans (hb9.mono HW8.out.size))
      have hin9 := Lib.hid (hin8.out.below hb9)
      clear hb9
      go_wp2_with fail
      have hinb := HI2.out.below HW9.out
      refine (HWr.out B H _ (HK.out.below HW9.out (by omega)) (by omega) hm9 (hinb.more HW9.out.size) (fun h0 => hinb.apart (C := w.heap.size) (by omega) (by rw [← HN2.out]; exact h0))).mono ?_
      rintro e w10 ⟨rfl, hm10, hbut10⟩
      rw [List.nil_append] at hm10
      have HW10 := Lib.hid (HW9.out.trans (hbut10.below (C := w.heap.size) (by omega) HW9.out.size))
      have hbut10sz := Nat.le_trans hb89 hbut10.size
      have hin10 := Lib.hid ((hin9.out.below (hbut10.below (C := w8.heap.size) hH hb89)).more hbut10sz)
      clear hm9 hinb hin9 hbut10
      go_wp2_with fail
      have hv := HV.out A8 c8 t htl w10 (HK.out.below HW10.out (by omega)) ((HI.out.below HW10.out).more HW10.out.size) ((HI2.out.below HW10.out).more HW10.out.size) hin10.out
      rw [HLT.out, HWV.out] at hv
      refine hv.mono ?_
      rintro e w11 ⟨rfl, hb11⟩
      have HW11 := Lib.hid (HW10.out.trans (hb11.mono HW10.out.size))
      have hm11 := hm10.below hb11 hm10.row.lt hm10.hash.lt
      have hin11 := Lib.hid ((hin10.out.below hb11).more hb11.size)
      clear hv hb11 hm10 hin10
      go_wp2_with fail
      have hv := HMV.out B H A8 c8 t htl w11 (HK.out.below HW11.out (by omega)) hm11 hin11.out
      rw [HLT.out, HWV.out] at hv
      refine hv.mono ?_
      rintro e w12 ⟨rfl, hb12⟩
      have HW12 := Lib.hid (HW11.out.trans (hb12.mono HW11.out.size))
      clear hv hb12 hm11 hin11
      go_wp2_with fail
      refine (hshown_any _ (HK.out.below HW12.out (by omega))).mono ?_
      rintro e w13 ⟨rfl, hb13⟩
      have HW13 := Lib.hid (HW12.out.trans (hb13.mono HW12.out.size))
      clear hb13
      go_wp2_with fail
      go_ret
      exact ⟨rfl, HW13.out⟩
    · have hmi : (x : Int) % 4 = 2 := by omega
      have hmt : (x : Int).tmod 4 = 2 := by rw [Int.tmod_eq_emod_of_nonneg (by omega)]; omega
      clear hm
      obtain ⟨p, hp⟩ : ∃ p, p = y % 32 := ⟨_, rfl⟩
      have hp1 : (y : Int) % 32 = (p : Int) := by omega
      have hp2 : (y : Int).tmod 32 = (p : Int) := by rw [Int.tmod_eq_emod_of_nonneg (by omega)]; omega
      have hp3 : p < 32 := by omega
      clear hp
      go_wp2_with (first
        | (refine S.wpList_store_but rfl 22 (.tmp 7) (.tmp 23) rfl w1.heap.size (d.map S.byteV) rfl rfl _ _ (S.Row.made (l := List.replicate 32 (S.byteV 0)) _ _ _ rfl rfl) HdI.out (by simp [Hdl.out]) (S.bvals_one _) ?_; intro w2 hr2 hbut2; have hrx2 := hbut2.row (hrx1.alloc _) (by have := hrx1.lt; omega); have hb02 := (hb01.alloc hb01.size (.cells (Array.replicate 32 (S.byteV 0)) 22)).trans (hbut2.below (C := w.heap.size) hb01.size (by have := hb01.size; simp; omega)); clear hbut2 hb01; have hown0 : (w2.alloc (.cells #[] 5)).ownsRow w2.heap.size 5 1 (.slice (some ⟨w2.heap.size, 0, none⟩) 0 0) ([] : List UInt8).length (([] : List UInt8).map S.byteV) := World.ownsRow_lit (base := w2.heap.size) (e := 5) (size := 1) w2 #[] 0 (Nat.le_refl _) (by decide) rfl; have hb22 : Below w2.heap.size w2 (w2.alloc (.cells #[] 5)) := (Below.refl _ _).alloc (Nat.le_refl _) _; have hinD : BytesIn (w2.alloc (.cells #[] 5)) (w1.heap.size + 1) (some ⟨w1.heap.size, 0, none⟩) 32 d := (by have h9 := M.in_row (hr2.alloc (.cells #[] 5)) (Nat.lt_succ_self _) (by rw [Hdl.out]; omega); rwa [Hdl.out] at h9))
        | (at_builtin; refine push_bytes w2 (w2.alloc (.cells #[] 5)) rfl (.tmp 24) (.tmp 25) rfl w2.heap.size _ [] rfl hown0 (w1.heap.size + 1) (some ⟨w1.heap.size, 0, none⟩) 32 32 d Hdl.out.symm rfl hinD (Nat.le_refl _) hb22 h0M hdM ?_; intro v3 w3 hown3 hb3 _; rw [List.nil_append, Hdl.out] at hown3; obtain ⟨g8, c8, rfl, hg8, hg8l⟩ := own_some hown3 (by omega); have hin3 := BytesIn.of_own hown3; have hcap3 := hin3.le; rw [Hdl.out] at hcap3; have hcap4 := hin3.cap; unfold maxLen at hcap4; have hrx3 := hrx2.below hb3 hrx2.lt; have cx0 := hrx3.cell (j := 0) (v := .int .u8 x) rfl; have cx1 := hrx3.cell (j := 1) (v := .int .u8 y) rfl))
      have hin8 := Lib.hid (hin3.take p)
      obtain ⟨t, ht⟩ : ∃ t, t = d.take p := ⟨_, rfl⟩
      obtain ⟨w8, hw8⟩ : ∃ w8, w8 = w3 := ⟨_, rfl⟩
      have hb8 := hb02.trans (hb3.mono hb02.size)
      have hlt8 : t.length = p := by rw [ht, List.length_take, Hdl.out]; omega
      have htl : t.length ≤ 300 := by omega
      have HLT := Lib.hid hlt8
      have HWV := Lib.hid (show M.code (decide (d = t)) = 12 by rw [decide_eq_false (fun e => by have h9 := congrArg List.length e; rw [Hdl.out, hlt8] at h9; omega)]; rfl)
      rw [← ht, ← hw8] at hin8
      rw [← hw8] at hb8 ⊢
      clear hown3 hb3 hb02 hr2 hrx2 hrx3 cx0 cx1 hown0 hb22 hinD ht hw8 hin3 hlt8
      obtain ⟨A8, HA8⟩ : ∃ A8, Hid (A8 = some (⟨g8, 0, none⟩ : Addr)) := ⟨_, Lib.hid rfl⟩
      rw [← HA8.out] at hin8 ⊢
      have HW8 := Lib.hid hb8
      clear hb8
      go_wp2_with fail
      refine (HNew.out _ (HK.out.below HW8.out (by omega)) ((HI.out.below HW8.out).more HW8.out.size)).mono ?_
      rintro e w9 ⟨B, H, rfl, hm9, hb9, hB, hH⟩
      have hsz8 := HW8.out.size
      have hb89 := hb9.size
      have HW9 := Lib.hid (HW8.out.trans (hb9.mono HW8.out.size))
      have hin9 := Lib.hid (hin8.out.below hb9)
      clear hb9
      go_wp2_with fail
      have hinb := HI2.out.below HW9.out
      refine (HWr.out B H _ (HK.out.below HW9.out (by omega)) (by omega) hm9 (hinb.more HW9.out.size) (fun h0 => hinb.apart (C := w.heap.size) (by omega) (by rw [← HN2.out]; exact h0))).mono ?_
      rintro e w10 ⟨rfl, hm10, hbut10⟩
      rw [List.nil_append] at hm10
      have HW10 := Lib.hid (HW9.out.trans (hbut10.below (C := w.heap.size) (by omega) HW9.out.size))
      have hbut10sz := Nat.le_trans hb89 hbut10.size
      have hin10 := Lib.hid ((hin9.out.below (hbut10.below (C := w8.heap.size) hH hb89)).more hbut10sz)
      clear hm9 hinb hin9 hbut10
      go_wp2_with fail
      have hv := HV.out A8 c8 t htl w10 (HK.out.below HW10.out (by omega)) ((HI.out.below HW10.out).more HW10.out.size) ((HI2.out.below HW10.out).more HW10.out.size) hin10.out
      rw [HLT.out, HWV.out] at hv
      refine hv.mono ?_
      rintro e w11 ⟨rfl, hb11⟩
      have HW11 := Lib.hid (HW10.out.trans (hb11.mono HW10.out.size))
      have hm11 := hm10.below hb11 hm10.row.lt hm10.hash.lt
      have hin11 := Lib.hid ((hin10.out.below hb11).more hb11.size)
      clear hv hb11 hm10 hin10
      go_wp2_with fail
      have hv := HMV.out B H A8 c8 t htl w11 (HK.out.below HW11.out (by omega)) hm11 hin11.out
      rw [HLT.out, HWV.out] at hv
      refine hv.mono ?_
      rintro e w12 ⟨rfl, hb12⟩
      have HW12 := Lib.hid (HW11.out.trans (hb12.mono HW11.out.size))
      clear hv hb12 hm11 hin11
      go_wp2_with fail
      refine (hshown_any _ (HK.out.below HW12.out (by omega))).mono ?_
      rintro e w13 ⟨rfl, hb13⟩
      have HW13 := Lib.hid (HW12.out.trans (hb13.mono HW12.out.size))
      clear hb13
      go_wp2_with fail
      go_ret
      exact ⟨rfl, HW13.out⟩
    · have hmi : (x : Int) % 4 = 3 := by omega
      have hmt : (x : Int).tmod 4 = 3 := by rw [Int.tmod_eq_emod_of_nonneg (by omega)]; omega
      clear hm
      have hy0 : (0 : Int) ≤ (y : Int) := by omega
      have hy1 : (y : Int) < 256 := by omega
      go_wp2_with (first
        | (refine S.wpList_store_but rfl 22 (.tmp 7) (.tmp 23) rfl w1.heap.size (d.map S.byteV) rfl rfl _ _ (S.Row.made (l := List.replicate 32 (S.byteV 0)) _ _ _ rfl rfl) HdI.out (by simp [Hdl.out]) (S.bvals_one _) ?_; intro w2 hr2 hbut2; have hrx2 := hbut2.row (hrx1.alloc _) (by have := hrx1.lt; omega); have hb02 := (hb01.alloc hb01.size (.cells (Array.replicate 32 (S.byteV 0)) 22)).trans (hbut2.below (C := w.heap.size) hb01.size (by have := hb01.size; simp; omega)); clear hbut2 hb01; have hown0 : (w2.alloc (.cells #[] 5)).ownsRow w2.heap.size 5 1 (.slice (some ⟨w2.heap.size, 0, none⟩) 0 0) ([] : List UInt8).length (([] : List UInt8).map S.byteV) := World.ownsRow_lit (base := w2.heap.size) (e := 5) (size := 1) w2 #[] 0 (Nat.le_refl _) (by decide) rfl; have hb22 : Below w2.heap.size w2 (w2.alloc (.cells #[] 5)) := (Below.refl _ _).alloc (Nat.le_refl _) _; have hinD : BytesIn (w2.alloc (.cells #[] 5)) (w1.heap.size + 1) (some ⟨w1.heap.size, 0, none⟩) 32 d := (by have h9 := M.in_row (hr2.alloc (.cells #[] 5)) (Nat.lt_succ_self _) (by rw [Hdl.out]; omega); rwa [Hdl.out] at h9))
        | (at_builtin; refine push_bytes w2 (w2.alloc (.cells #[] 5)) rfl (.tmp 24) (.tmp 25) rfl w2.heap.size _ [] rfl hown0 (w1.heap.size + 1) (some ⟨w1.heap.size, 0, none⟩) 32 32 d Hdl.out.symm rfl hinD (Nat.le_refl _) hb22 h0M hdM ?_; intro v3 w3 hown3 hb3 _; rw [List.nil_append] at hown3; have hrx3 := hrx2.below hb3 hrx2.lt; have cx0 := hrx3.cell (j := 0) (v := .int .u8 x) rfl; have cx1 := hrx3.cell (j := 1) (v := .int .u8 y) rfl)
        | (at_builtin; refine push_byte w2 w3 (y : Int) rfl (.tmp 30) (.tmp 33) rfl w2.heap.size _ d rfl rfl hown3 (Nat.le_refl _) hb3 hy0 hy1 hdM ?_; intro v4 w4 hown4 hb4))
      have hlen4 : (d ++ [UInt8.ofNat (y : Int).toNat]).length = 33 := by rw [List.length_append, Hdl.out]; rfl
      rw [hlen4] at hown4
      obtain ⟨A8, c8, rfl, _⟩ := S.own_slice hown4
      obtain ⟨t, ht⟩ : ∃ t, t = d ++ [UInt8.ofNat (y : Int).toNat] := ⟨_, rfl⟩
      obtain ⟨w8, hw8⟩ : ∃ w8, w8 = w4 := ⟨_, rfl⟩
      have hin8 := Lib.hid (BytesIn.of_own hown4)
      have hb8 := hb02.trans (hb4.mono hb02.size)
      have htl : t.length ≤ 300 := by rw [ht, hlen4]; omega
      have HLT := Lib.hid (show t.length = 33 by rw [ht, hlen4])
      have HWV := Lib.hid (show M.code (decide (d = t)) = 12 by rw [decide_eq_false (fun e => by have h9 := congrArg List.length e; rw [Hdl.out, ht, hlen4] at h9; omega)]; rfl)
      rw [← ht, ← hw8] at hin8
      rw [← hw8] at hb8 ⊢
      clear hown3 hb3 hb4 hown4 hb02 hr2 hrx2 hrx3 cx0 cx1 hown0 hb22 hinD ht hw8 hlen4
      have HW8 := Lib.hid hb8
      clear hb8
      go_wp2_with fail
      refine (HNew.out _ (HK.out.below HW8.out (by omega)) ((HI.out.below HW8.out).more HW8.out.size)).mono ?_
      rintro e w9 ⟨B, H, rfl, hm9, hb9, hB, hH⟩
      have hsz8 := HW8.out.size
      have hb89 := hb9.size
      have HW9 := Lib.hid (HW8.out.trans (hb9.mono HW8.out.size))
      have hin9 := Lib.hid (hin8.out.below hb9)
      clear hb9
      go_wp2_with fail
      have hinb := HI2.out.below HW9.out
      refine (HWr.out B H _ (HK.out.below HW9.out (by omega)) (by omega) hm9 (hinb.more HW9.out.size) (fun h0 => hinb.apart (C := w.heap.size) (by omega) (by rw [← HN2.out]; exact h0))).mono ?_
      rintro e w10 ⟨rfl, hm10, hbut10⟩
      rw [List.nil_append] at hm10
      have HW10 := Lib.hid (HW9.out.trans (hbut10.below (C := w.heap.size) (by omega) HW9.out.size))
      have hbut10sz := Nat.le_trans hb89 hbut10.size
      have hin10 := Lib.hid ((hin9.out.below (hbut10.below (C := w8.heap.size) hH hb89)).more hbut10sz)
      clear hm9 hinb hin9 hbut10
      go_wp2_with fail
      have hv := HV.out A8 c8 t htl w10 (HK.out.below HW10.out (by omega)) ((HI.out.below HW10.out).more HW10.out.size) ((HI2.out.below HW10.out).more HW10.out.size) hin10.out
      rw [HLT.out, HWV.out] at hv
      refine hv.mono ?_
      rintro e w11 ⟨rfl, hb11⟩
      have HW11 := Lib.hid (HW10.out.trans (hb11.mono HW10.out.size))
      have hm11 := hm10.below hb11 hm10.row.lt hm10.hash.lt
      have hin11 := Lib.hid ((hin10.out.below hb11).more hb11.size)
      clear hv hb11 hm10 hin10
      go_wp2_with fail
      have hv := HMV.out B H A8 c8 t htl w11 (HK.out.below HW11.out (by omega)) hm11 hin11.out
      rw [HLT.out, HWV.out] at hv
      refine hv.mono ?_
      rintro e w12 ⟨rfl, hb12⟩
      have HW12 := Lib.hid (HW11.out.trans (hb12.mono HW11.out.size))
      clear hv hb12 hm11 hin11
      go_wp2_with fail
      refine (hshown_any _ (HK.out.below HW12.out (by omega))).mono ?_
      rintro e w13 ⟨rfl, hb13⟩
      have HW13 := Lib.hid (HW12.out.trans (hb13.mono HW12.out.size))
      clear hb13
      go_wp2_with fail
      go_ret
      exact ⟨rfl, HW13.out⟩
  · have hcap := Nat.le_trans hin.le hin.cap
    have hcap2 := Nat.le_trans hin2.le hin2.cap
    unfold maxLen at hcap hcap2
    generalize key.length = N1 at hs hcap ⊢
    generalize b.length = N2 at hs hcap2 ⊢
    have hb0 : Below w.heap.size w (w.alloc (.cells #[.int .u8 x, .int .u8 y] 69)) := (Below.refl _ _).alloc (Nat.le_refl _) _
    have HB0 := Lib.hid hb0
    clear hin hin2 hK hb0
    rcases (show 300 < N1 ∨ (N1 ≤ 300 ∧ 300 < N2) by omega) with h | ⟨h, h'⟩
    all_goals
      go_enter Tryd.func9, Tryd.ntmps9
      go_wp2_with fail
      refine (hshown_any _ (HK.out.below HB0.out (by omega))).mono ?_
      rintro e w3 ⟨rfl, hb3⟩
      have HB3 := Lib.hid (HB0.out.trans (hb3.mono HB0.out.size))
      clear hb3
      go_wp2_with fail
      go_ret
      exact ⟨rfl, HB3.out⟩
end Go.Proofs.YtgpgnfdbjljljaaDoor
