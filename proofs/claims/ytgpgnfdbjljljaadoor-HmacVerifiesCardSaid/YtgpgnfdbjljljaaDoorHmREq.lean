/- The contracts of the reference's Equal and Verify. -/
import Derived.Test.YtgpgnfdbjljljaaDoorHmRTag
import Derived.Test.YtgpgnfdbjljljaaDoorHmMeth
import Derived.StillTailTactics
namespace Go.Proofs.YtgpgnfdbjljljaaDoor
open Go.RowKit
namespace M
/-- Whether two lists have one length, and the same first bytes. -/
def eqs (a b : List UInt8) : Nat → Bool
  | 0 => decide (a.length = b.length)
  | k + 1 => eqs a b k && (S.at_ a k == S.at_ b k)
theorem eqs_iff (a b : List UInt8) : ∀ k, eqs a b k = true ↔ a.length = b.length ∧ ∀ i, i < k → S.at_ a i = S.at_ b i
  | 0 => by simp [eqs]
  | k + 1 => by
    rw [eqs, Bool.and_eq_true, eqs_iff a b k, beq_iff_eq]
    constructor
    · rintro ⟨⟨h1, h2⟩, h3⟩
      refine ⟨h1, fun i hi => ?_⟩
      by_cases e : i = k
      · subst e; exact h3
      · exact h2 i (by omega)
    · rintro ⟨h1, h2⟩
      exact ⟨⟨h1, fun i hi => h2 i (by omega)⟩, h2 k (by omega)⟩
theorem eqs_all (a b : List UInt8) : eqs a b (max a.length b.length) = decide (a = b) := by
  by_cases h : a = b
  · subst h
    rw [decide_eq_true rfl]
    exact (eqs_iff a a _).2 ⟨rfl, fun _ _ => rfl⟩
  · rw [decide_eq_false h]
    cases he : eqs a b (max a.length b.length) with
    | false => rfl
    | true =>
      obtain ⟨h1, h2⟩ := (eqs_iff a b _).1 he
      exact absurd (same_of h1 (fun i hi => h2 i (by omega))) h
end M
set_option maxRecDepth 100000 in
set_option maxHeartbeats 2000000 in
theorem REqual_any (A1 A2 : Option Addr) (c1 c2 : Nat) (a b : List UInt8) (w : World) (h1 : BytesIn w w.heap.size A1 c1 a) (h2 : BytesIn w w.heap.size A2 c2 b) (ha : a.length ≤ 1000000000) (hb : b.length ≤ 1000000000) :
    Calls Tryd.prog 37 #[.slice A1 a.length c1, .slice A2 b.length c2] w fun e w' => e = .returned (.tuple #[.bool (decide (a = b)), .int .i64 ((max a.length b.length : Nat) : Int)]) ∧ Below w.heap.size w w' := by
  have HAll := Lib.hid (M.eqs_all a b)
  have HZero := Lib.hid (show M.eqs a b 0 = ((a.length : Int) == (b.length : Int)) by
    unfold M.eqs
    by_cases h : a.length = b.length
    · rw [decide_eq_true h, h]; exact (beq_self_eq_true _).symm
    · rw [decide_eq_false h]; exact (beq_eq_false_iff_ne.2 (by omega)).symm)
  obtain ⟨N, HN⟩ : ∃ N, Hid (N = a.length) := ⟨_, Lib.hid rfl⟩
  obtain ⟨K, HKk⟩ : ∃ K, Hid (K = b.length) := ⟨_, Lib.hid rfl⟩
  rw [← HN.out] at ha HAll HZero ⊢
  rw [← HKk.out] at hb HAll HZero ⊢
  obtain ⟨m, Hm⟩ : ∃ m, Hid (m = max N K) := ⟨_, Lib.hid rfl⟩
  have hcase : (N < K ∧ Hid ((K : Int) = (m : Int))) ∨ (K ≤ N ∧ Hid ((N : Int) = (m : Int))) := by
    by_cases h : N < K
    · exact .inl ⟨h, Lib.hid (by rw [Hm.out, Nat.max_eq_right (by omega)])⟩
    · exact .inr ⟨by omega, Lib.hid (by rw [Hm.out, Nat.max_eq_left (by omega)])⟩
  have hm9 : m ≤ 1000000000 := by rw [Hm.out]; omega
  have HR1 := Lib.hid h1
  have HR2 := Lib.hid h2
  rw [← Hm.out] at HAll
  obtain ⟨r, HR⟩ : ∃ r, Hid (r = decide (a = b)) := ⟨_, Lib.hid rfl⟩
  rw [← HR.out] at HAll ⊢
  clear h1 h2
  rcases hcase with ⟨hlt, E⟩ | ⟨hlt, E⟩
  all_goals
    go_enter Tryd.func37, Tryd.ntmps37
    go_wp2_with fail
    go_loopw [7, 8] (fun v7 v8 wr => ∃ k : Nat, k ≤ m ∧ v8 = .int .i64 k ∧ v7 = .bool (M.eqs a b k) ∧ Below w.heap.size w wr) (fun _ i _ => m - (intOf i).toNat)
    case atStart => exact ⟨0, Nat.zero_le _, rfl, by rw [HZero.out], Below.refl _ _⟩
    case round =>
      obtain ⟨k, hk, rfl, rfl, hbel⟩ := hrel
      by_cases hlt2 : k < m
      · obtain ⟨e, He⟩ : ∃ e, e = M.eqs a b k := ⟨_, rfl⟩
        obtain ⟨x, hx⟩ : ∃ x, x = S.at_ a k := ⟨_, rfl⟩
        obtain ⟨y, hy⟩ : ∃ y, y = S.at_ b k := ⟨_, rfl⟩
        have HNX := Lib.hid (show M.eqs a b (k + 1) = (e && ((x : Int) == (y : Int))) by
          rw [M.eqs, He, hx, hy]
          congr 1
          by_cases h : S.at_ a k = S.at_ b k
          · rw [h]; simp
          · rw [beq_eq_false_iff_ne.2 h, beq_eq_false_iff_ne.2 (by omega)])
        have hxa : (k < N ∧ ∃ ad, A1 = some ad ∧ wr.cell? (ad.add k) = some (.int .u8 x)) ∨ (¬ k < N ∧ x = 0) := by
          by_cases h : k < N
          · obtain ⟨ad, hA, hc⟩ := (HR1.out.below hbel).at_ (k := k) (by rw [← HN.out]; exact h)
            rw [← M.at_get, ← hx] at hc
            exact .inl ⟨h, ad, hA, hc⟩
          · exact .inr ⟨h, by rw [hx]; exact M.at_past (by rw [← HN.out]; omega)⟩
        have hya : (k < K ∧ ∃ ad, A2 = some ad ∧ wr.cell? (ad.add k) = some (.int .u8 y)) ∨ (¬ k < K ∧ y = 0) := by
          by_cases h : k < K
          · obtain ⟨ad, hA, hc⟩ := (HR2.out.below hbel).at_ (k := k) (by rw [← HKk.out]; exact h)
            rw [← M.at_get, ← hy] at hc
            exact .inl ⟨h, ad, hA, hc⟩
          · exact .inr ⟨h, by rw [hy]; exact M.at_past (by rw [← HKk.out]; omega)⟩
        have hkm : (k : Int) < (m : Int) := by omega
        have HB := Lib.hid hbel
        have HEm := E
        rw [← He]
        clear He hx hy hbel E
        rcases hxa with ⟨hkN, ad1, hA1, hc1⟩ | ⟨hkN, hx0⟩ <;> rcases hya with ⟨hkK, ad2, hA2, hc2⟩ | ⟨hkK, hy0⟩ <;> cases e
        all_goals
          (try subst hA1)
          (try subst hA2)
          (try subst hx0)
          (try subst hy0)
          (try rw [HEm.out])
          go_wp2_with fail
          go_roundw
          case rel => exact ⟨k + 1, by omega, by go_num, by rw [HNX.out]; rfl, HB.out⟩
          case measure => simp [intOf]; omega
      · obtain rfl : k = m := by omega
        rw [HAll.out]
        have HB := Lib.hid hbel
        have HEm := E
        clear hbel E
        (try rw [HEm.out])
        go_wp2_with fail
        go_ret2
        exact ⟨by rw [← Hm.out]; rfl, HB.out⟩
set_option maxRecDepth 100000 in
set_option maxHeartbeats 2000000 in
theorem RVerify_any (A A2 A3 : Option Addr) (c c2 c3 : Nat) (key b t : List UInt8) (w : World) (hin : BytesIn w w.heap.size A c key) (hin2 : BytesIn w w.heap.size A2 c2 b) (hin3 : BytesIn w w.heap.size A3 c3 t) (hlen : key.length ≤ 10000) (hlen2 : b.length ≤ 10000) :
    Calls Tryd.prog 39 #[.slice A key.length c, .slice A2 b.length c2, .slice A3 t.length c3] w fun e w' => e = .returned (.int .i64 (M.code (decide (M.tag key b = t)))) ∧ Below w.heap.size w w' := by
  have HTg := Lib.hid (RKTag_any A A2 c c2 key b w hin hin2 hlen hlen2)
  obtain ⟨d, HD⟩ : ∃ d, Hid (d = M.tag key b) := ⟨_, Lib.hid rfl⟩
  have HDl := Lib.hid (show d.length = 32 by rw [HD.out, M.tag_len])
  rw [← HD.out] at HTg ⊢
  have HDI := Lib.hid (show (Tryd.prog.info? 22).map (·.size) = some (d.map S.byteV).toArray.size by rw [S.info_d32]; simp [HDl.out])
  have HI := Lib.hid hin3
  generalize key.length = N1 at HTg ⊢
  generalize b.length = N2 at HTg ⊢
  obtain ⟨N, HN⟩ : ∃ N, Hid (N = t.length) := ⟨_, Lib.hid rfl⟩
  rw [← HN.out]
  have hcap := Nat.le_trans hin3.le hin3.cap
  rw [← HN.out] at hcap
  unfold maxLen at hcap
  clear hin hin2 hin3 hlen hlen2
  go_enter Tryd.func39, Tryd.ntmps39
  go_wp2_with fail
  refine HTg.out.mono ?_
  rintro e w1 ⟨rfl, hb1⟩
  by_cases h32 : N = 32
  · subst h32
    go_wp2_with (refine S.wpList_store_but rfl 22 (.tmp 7) (.tmp 11) rfl w1.heap.size (d.map S.byteV) rfl rfl _ _ (S.Row.made (l := List.replicate 32 (S.byteV 0)) _ _ _ rfl rfl) HDI.out (by simp [HDl.out]) (S.bvals_one _) ?_; intro w2 hr2 hbut2; have hb02 := (hb1.alloc hb1.size (.cells (Array.replicate 32 (S.byteV 0)) 22)).trans (hbut2.below (C := w.heap.size) hb1.size (by have := hb1.size; simp; omega)); clear hbut2 hb1)
    go_loopw [8] (fun i wr => ∃ k : Nat, k ≤ 32 ∧ i = .int .i64 k ∧ (∀ j, j < k → S.at_ d j = S.at_ t j) ∧ S.Row wr w1.heap.size 22 (d.map S.byteV) ∧ Below w.heap.size w wr) (fun i _ => 32 - (intOf i).toNat)
    case atStart => exact ⟨0, Nat.zero_le _, rfl, fun j hj => absurd hj (by omega), hr2, hb02⟩
    case round =>
      clear hr2 hb02
      obtain ⟨k, hk, rfl, hsame, hr, hbel⟩ := hrel
      have HS := Lib.hid hsame
      clear hsame
      by_cases hlt : k < 32
      · have hkl : k < d.length := by rw [HDl.out]; exact hlt
        have hc := hr.cell (j := k) (v := .int .u8 (S.at_ d k : Nat)) (by rw [M.at_get hkl, List.getElem?_map, List.getElem?_eq_getElem hkl]; rfl)
        obtain ⟨ad, hA, hc3⟩ := (HI.out.below hbel).at_ (k := k) (by rw [← HN.out]; exact hlt)
        rw [← M.at_get] at hc3
        obtain ⟨x, hX⟩ : ∃ x, S.at_ d k = x := ⟨_, rfl⟩
        obtain ⟨y, hY⟩ : ∃ y, S.at_ t k = y := ⟨_, rfl⟩
        rw [hX] at hc
        rw [hY] at hc3
        subst hA
        clear hkl
        by_cases hxy : x = y
        · have HS2 : Hid (∀ j, j < k + 1 → S.at_ d j = S.at_ t j) := Lib.hid (fun j hj => by
            by_cases e : j = k
            · subst e; rw [hX, hY, hxy]
            · exact HS.out j (by omega))
          subst hxy
          clear hX hY
          go_wp2_with fail
          refine wp_region_still_lit (by kernel_rfl) (by kernel_rfl) ?_
          repeat still_step
          refine wpStill_nil ?_
          change Exit.then _ _ _ _ wr.drew
          go_wp2_with fail
          go_roundw
          case rel => exact ⟨k + 1, by omega, by go_num, HS2.out, hr, hbel.drew⟩
          case measure => simp [intOf]; omega
        · have hne : d ≠ t := fun h => hxy (by rw [← hX, ← hY, h])
          have hxi : ¬ (x : Int) = (y : Int) := by omega
          have HNE := Lib.hid hne
          have HB := Lib.hid hbel
          clear hX hY hne hxy hbel
          go_wp2_with fail
          refine wp_region_still_lit (by kernel_rfl) (by kernel_rfl) ?_
          repeat still_step
          refine wpStill_nil ?_
          change Exit.then _ _ _ _ wr.drew
          go_wp2_with fail
          go_ret
          exact ⟨by rw [decide_eq_false HNE.out]; rfl, HB.out.drew⟩
      · obtain rfl : k = 32 := by omega
        have HE := Lib.hid (M.same_of (a := d) (b := t) (by rw [HDl.out]; exact HN.out) (fun i hi => HS.out i (by rw [HDl.out] at hi; exact hi)))
        have HB := Lib.hid hbel
        clear hbel hr
        go_wp2_with fail
        go_ret
        exact ⟨by rw [decide_eq_true HE.out]; rfl, HB.out⟩
  · have hne : d ≠ t := fun h => h32 (by rw [HN.out, ← h, HDl.out])
    have hni : ¬ (N : Int) = 32 := by omega
    have HNE := Lib.hid hne
    clear hne h32
    go_wp2_with (refine S.wpList_store_but rfl 22 (.tmp 7) (.tmp 11) rfl w1.heap.size (d.map S.byteV) rfl rfl _ _ (S.Row.made (l := List.replicate 32 (S.byteV 0)) _ _ _ rfl rfl) HDI.out (by simp [HDl.out]) (S.bvals_one _) ?_; intro w2 hr2 hbut2; have HB2 := Lib.hid ((hb1.alloc hb1.size (.cells (Array.replicate 32 (S.byteV 0)) 22)).trans (hbut2.below (C := w.heap.size) hb1.size (by have := hb1.size; simp; omega))); clear hbut2 hb1 hr2)
    go_ret
    exact ⟨by rw [decide_eq_false HNE.out]; rfl, HB2.out⟩
end Go.Proofs.YtgpgnfdbjljljaaDoor
