/- The contract of package hmac's Equal: it compares two slices of bytes, and looks at as many bytes as the longer one has. -/
import Derived.Test.YtgpgnfdbjljljaaDoorHmColl
import Derived.StillTailTactics
import Derived.Deep.QuietTactic
namespace Go.Proofs.YtgpgnfdbjljljaaDoor
open Go.RowKit
set_option maxRecDepth 100000 in
set_option maxHeartbeats 2000000 in
theorem Equal_any (A1 A2 : Option Addr) (c1 c2 : Nat) (a b : List UInt8) (w : World) (h1 : BytesIn w w.heap.size A1 c1 a) (h2 : BytesIn w w.heap.size A2 c2 b) (ha : a.length ≤ 1000000000) (hb : b.length ≤ 1000000000) :
    Calls Tryd.prog 36 #[.slice A1 a.length c1, .slice A2 b.length c2] w fun e w' => e = .returned (.tuple #[.bool (decide (a = b)), .int .i64 ((max a.length b.length : Nat) : Int)]) ∧ Below w.heap.size w w' := by
  obtain ⟨N, HN⟩ : ∃ N, Hid (N = a.length) := ⟨_, Lib.hid rfl⟩
  obtain ⟨K, HKk⟩ : ∃ K, Hid (K = b.length) := ⟨_, Lib.hid rfl⟩
  have hc1 := h1.le
  have hc2 := h2.le
  have hm1 := h1.cap
  have hm2 := h2.cap
  unfold maxLen at hm1 hm2
  rw [← HN.out] at ha hc1 ⊢
  rw [← HKk.out] at hb hc2 ⊢
  obtain ⟨m, Hm⟩ : ∃ m, Hid (m = min N K) := ⟨_, Lib.hid rfl⟩
  have hmN : m ≤ N := by rw [Hm.out]; exact Nat.min_le_left _ _
  have hmK : m ≤ K := by rw [Hm.out]; exact Nat.min_le_right _ _

  have s1 : ∀ W, (Instr.sliceAt 33 (.slice A1 N c1) (some (.int .i64 (m : Int))) none none).run Tryd.prog W = .ok (.slice (if c1 = m then A1 else A1.map (·.add m)) (N - m) (c1 - m)) W := fun W => M.run_slice_cut W _ 5 A1 N c1 m _ Tryd.underlying33 S.info_byte rfl hmN
  have s2 : ∀ W, (Instr.sliceAt 33 (.slice A2 K c2) (some (.int .i64 (m : Int))) none none).run Tryd.prog W = .ok (.slice (if c2 = m then A2 else A2.map (·.add m)) (K - m) (c2 - m)) W := fun W => M.run_slice_cut W _ 5 A2 K c2 m _ Tryd.underlying33 S.info_byte rfl hmK
  have r1 := h1.cut (k := m) (by rw [← HN.out]; exact hmN)
  have r2 := h2.cut (k := m) (by rw [← HKk.out]; exact hmK)
  obtain ⟨B1, HB1⟩ : ∃ B1, (if c1 = m then A1 else A1.map (·.add m)) = B1 := ⟨_, rfl⟩
  obtain ⟨B2, HB2⟩ : ∃ B2, (if c2 = m then A2 else A2.map (·.add m)) = B2 := ⟨_, rfl⟩
  rw [HB1] at s1 r1
  rw [HB2] at s2 r2
  clear HB1 HB2
  have hcase : (K < N ∧ Hid ((K : Int) = (m : Int))) ∨ (N ≤ K ∧ Hid ((N : Int) = (m : Int))) := by
    by_cases h : K < N
    · exact .inl ⟨h, Lib.hid (by rw [Hm.out, Nat.min_eq_right (by omega)])⟩
    · exact .inr ⟨by omega, Lib.hid (by rw [Hm.out, Nat.min_eq_left (by omega)])⟩
  have hge : Hid (m = N ∨ m = K) := Lib.hid (by rw [Hm.out]; omega)
  have hm9 : m ≤ 1000000000 := by omega
  have HR1 := Lib.hid h1
  have HR2 := Lib.hid h2
  have HC1 := Lib.hid r1
  have HC2 := Lib.hid r2
  clear h1 h2 r1 r2
  rcases hcase with ⟨hlt, E⟩ | ⟨hlt, E⟩
  all_goals
    go_enter Tryd.func36, Tryd.ntmps36
    go_wp2_with fail
    rw [E.out]
    clear E hlt
    go_loopw [5, 6, 20] (fun v5 v6 v20 wr => ∃ k x : Nat, k ≤ m ∧ v5 = .int .i64 k ∧ v20 = .int .i64 k ∧ v6 = .int .u8 x ∧ x < 256 ∧ Hid (x = M.acc a b k) ∧ Below w.heap.size w wr) (fun _ _ i _ => m - (intOf i).toNat)
    case atStart => exact ⟨0, 0, Nat.zero_le _, rfl, rfl, rfl, by decide, Lib.hid rfl, Below.refl _ _⟩
    case round =>
      obtain ⟨k, x, hk, rfl, rfl, rfl, hx, HX, hbel⟩ := hrel
      by_cases hlt : k < m
      · obtain ⟨ad1, hA1, hcell1⟩ := (HR1.out.below hbel).at_ (k := k) (by rw [← HN.out]; omega)
        obtain ⟨ad2, hA2, hcell2⟩ := (HR2.out.below hbel).at_ (k := k) (by rw [← HKk.out]; omega)
        rw [← M.at_get] at hcell1 hcell2
        have hkN : k < N := by omega
        have hkK : k < K := by omega
        have hy := S.at_lt a k
        have hz := S.at_lt b k
        obtain ⟨y, hY⟩ : ∃ y, S.at_ a k = y := ⟨_, rfl⟩
        obtain ⟨z, hZ⟩ : ∃ z, S.at_ b k = z := ⟨_, rfl⟩
        have HX2 := Lib.hid (M.acc_next HX.out hY hZ)
        rw [hY] at hcell1 hy
        rw [hZ] at hcell2 hz
        have hx2 : (x ||| (y ^^^ z)) < 256 := by rw [HX2.out]; exact M.acc_lt _ _ _
        have HB := Lib.hid hbel
        have HCL := Lib.hid (fun w => (collect_any x y z hx hy hz w).mono fun _ _ h => (⟨h.1, h.2.symm⟩ : _ ∧ _))
        generalize (x ||| (y ^^^ z)) = x2 at hx2 HX2 HCL
        subst hA1 hA2
        clear hY hZ hbel HX
        go_wp2_with fail
        refine wp_region_still_lit (by kernel_rfl) (by kernel_rfl) ?_
        repeat still_step
        still_call (HCL.out _)
        repeat still_step
        refine wpStill_nil ?_
        change Exit.then _ _ _ _ wr.drew
        go_wp2_with fail
        go_roundw
        case rel => exact ⟨k + 1, x2, by omega, by go_num, by go_num, rfl, hx2, HX2, HB.out.drew⟩
        case measure => simp [intOf]; omega
      · obtain rfl : k = m := by omega
        have HB := Lib.hid hbel
        have HX1 := Lib.hid hx
        have HS1 := Lib.hid s1
        have HS2 := Lib.hid s2
        clear hbel s2
        go_wp2_with fail
        go_loopw [5, 6, 40] (fun v5 v6 v40 wr => ∃ j x : Nat, j ≤ N - k ∧ v5 = .int .i64 ((k + j : Nat) : Int) ∧ v40 = .int .i64 j ∧ v6 = .int .u8 x ∧ x < 256 ∧ Hid (x = M.acc a b (k + j)) ∧ Below w.heap.size w wr) (fun _ _ i _ => N - k - (intOf i).toNat)
        case atStart => exact ⟨0, x, Nat.zero_le _, rfl, rfl, rfl, HX1.out, HX, HB.out⟩
        case round =>
          clear hlt hx HX HX1 HB
          obtain ⟨j, x, hj, rfl, rfl, rfl, hx, HX, hbel⟩ := hrel
          by_cases hlt : j < N - k
          · obtain ⟨ad1, hA1, hcell1⟩ := (HC1.out.below hbel).at_ (k := j) (by rw [List.length_drop, ← HN.out]; exact hlt)
            rw [← M.at_get, M.at_drop] at hcell1
            have hy := S.at_lt a (k + j)
            obtain ⟨y, hY⟩ : ∃ y, S.at_ a (k + j) = y := ⟨_, rfl⟩
            have HX2 := Lib.hid (M.acc_left HX.out hY (by have := hge.out; rw [← HKk.out]; omega))
            rw [hY] at hcell1 hy
            have hx2 : (x ||| y) < 256 := by rw [HX2.out]; exact M.acc_lt _ _ _
            have HB := Lib.hid hbel
            have HCL := Lib.hid (fun w => collect_left x y hx hy w)
            generalize (x ||| y) = x2 at hx2 HX2 HCL
            subst hA1
            clear hY hbel HX s1
            go_wp2_with fail
            refine (HCL.out _).mono ?_
            rintro e w' ⟨rfl, rfl⟩
            go_wp2_with fail
            go_roundw
            case rel => exact ⟨j + 1, x2, by omega, by go_num, by go_num, rfl, hx2, HX2, HB.out⟩
            case measure => simp [intOf]; omega
          · obtain rfl : j = N - k := by omega
            rw [show k + (N - k) = N by omega] at HX ⊢
            have HB := Lib.hid hbel
            have HX1 := Lib.hid hx
            have s2 := HS2.out
            clear hbel s1 hj hlt
            go_wp2_with fail
            go_loopw [5, 6, 54] (fun v5 v6 v54 wr => ∃ j x : Nat, j ≤ K - k ∧ v5 = .int .i64 ((N + j : Nat) : Int) ∧ v54 = .int .i64 j ∧ v6 = .int .u8 x ∧ x < 256 ∧ Hid (x = M.acc a b (N + j)) ∧ Below w.heap.size w wr) (fun _ _ i _ => K - k - (intOf i).toNat)
            case atStart => exact ⟨0, x, Nat.zero_le _, rfl, rfl, rfl, HX1.out, HX, HB.out⟩
            case round =>
              clear hx HX HX1 HB
              obtain ⟨j, x, hj, rfl, rfl, rfl, hx, HX, hbel⟩ := hrel
              by_cases hlt : j < K - k
              · obtain ⟨ad2, hA2, hcell2⟩ := (HC2.out.below hbel).at_ (k := j) (by rw [List.length_drop, ← HKk.out]; exact hlt)
                have hkN : k = N := by have := hge.out; omega
                rw [← M.at_get, M.at_drop, hkN] at hcell2
                have hy := S.at_lt b (N + j)
                obtain ⟨y, hY⟩ : ∃ y, S.at_ b (N + j) = y := ⟨_, rfl⟩
                have HX2 := Lib.hid (M.acc_right HX.out hY (by rw [← HN.out]; omega))
                rw [hY] at hcell2 hy
                have hx2 : (x ||| y) < 256 := by rw [HX2.out]; exact M.acc_lt _ _ _
                have HB := Lib.hid hbel
                have HCL := Lib.hid (fun w => collect_right x y hx hy w)
                generalize (x ||| y) = x2 at hx2 HX2 HCL
                subst hA2
                clear hY hbel HX s2 hkN
                go_wp2_with fail
                refine (HCL.out _).mono ?_
                rintro e w' ⟨rfl, rfl⟩
                go_wp2_with fail
                go_roundw
                case rel => exact ⟨j + 1, x2, by omega, by go_num, by go_num, rfl, hx2, HX2, HB.out⟩
                case measure => simp [intOf]; omega
              · obtain rfl : j = K - k := by omega
                have hP : N + (K - k) = max N K := by have := hge.out; omega
                rw [hP] at HX ⊢
                have hr := M.all_zero a b
                rw [← HN.out, ← HKk.out, ← HX.out] at hr
                have HCL := Lib.hid (fun w => collect64_any x N K (by omega) (by omega) (by omega) w)
                generalize (x ||| (N ^^^ K)) = r at hr HCL
                have HB := Lib.hid hbel
                have HR := Lib.hid hr
                obtain ⟨P, HP⟩ : ∃ P, Hid (P = max N K) := ⟨_, Lib.hid rfl⟩
                rw [← HP.out]
                clear hbel s2 hj hlt hP hr
                go_wp2_with fail
                refine (HCL.out _).mono ?_
                rintro e w' ⟨rfl, rfl⟩
                have HE : Hid (decide (a = b) = ((r : Int) == 0)) := Lib.hid (by
                  by_cases hab : a = b
                  · rw [decide_eq_true hab, HR.out.2 hab]; rfl
                  · have h0 : r ≠ 0 := fun h => hab (HR.out.1 h)
                    rw [decide_eq_false hab]
                    exact (beq_eq_false_iff_ne.2 (by omega)).symm)
                clear HCL HR
                go_wp2_with fail
                go_ret2
                exact ⟨by rw [HE.out, ← HP.out]; rfl, HB.out⟩
end Go.Proofs.YtgpgnfdbjljljaaDoor
