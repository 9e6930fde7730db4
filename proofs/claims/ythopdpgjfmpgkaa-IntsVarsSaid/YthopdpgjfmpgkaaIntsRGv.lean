/- Contract of GetVar of the reference. -/
import Derived.Test.YthopdpgjfmpgkaaIntsGv
namespace Go.Proofs.Ythopdpgjfmpgkaa
open Go.RowKit
namespace I
theorem vv_drop_le (l : List UInt8) : ∀ j, vv (l.drop j) ≤ vv l := by
  intro j
  induction l generalizing j with
  | nil => simp [vv]
  | cons c r ih =>
    cases j with
    | zero => exact Nat.le_refl _
    | succ j =>
      have := ih j
      simp only [List.drop_succ_cons, vv]
      omega
theorem vv_drop_step {l : List UInt8} {k j : Nat} (hj : j ≤ k) (hk : k < l.length) : vv ((l.take (k + 1)).drop j) = 128 * vv ((l.take (k + 1)).drop (j + 1)) + at' l j % 128 := by
  have hlt : j < (l.take (k + 1)).length := by rw [List.length_take]; omega
  rw [List.drop_eq_getElem_cons hlt]
  have e : (l.take (k + 1))[j] = l[j]'(by omega) := List.getElem_take
  simp only [vv]
  rw [e, at_eq (by omega)]
  omega
theorem vv_drop_end {l : List UInt8} {k : Nat} : vv ((l.take (k + 1)).drop (k + 1)) = 0 := by
  rw [List.drop_eq_nil_of_le (by rw [List.length_take]; omega)]; rfl
theorem vv_total {l : List UInt8} {k : Nat} (hk : k < l.length) (h9 : k ≤ 9) (hx : at' l k < 128) (h : k = 9 → at' l 9 ≤ 1) : vv (l.take (k + 1)) < 18446744073709551616 := by
  have hm : at' l k % 128 = at' l k := Nat.mod_eq_of_lt hx
  rw [vv_step hk, hm]
  exact acc_lt (vv_bd (Nat.le_of_lt hk)) h9 hx (fun e => by rw [e]; exact h e)
end I
set_option maxRecDepth 100000 in
set_option maxHeartbeats 2000000 in
theorem RGetVar_some (ad : Addr) (c : Nat) (l : List UInt8) (w : World) (hb : BytesIn w w.heap.size (some ad) c l) (hl : l.length ≤ 100000) :
    Calls Try.prog 18 #[.slice (some ad) l.length c] w (GvPost l w) := by
  have hlc := hb.le
  have hcm := hb.cap
  unfold maxLen at hcm
  go_enter Try.func18, Try.ntmps18
  go_wp2_with fail
  go_loop [5] (fun i => ∃ k : Nat, k ≤ l.length ∧ k ≤ 10 ∧ i = .int .i64 k ∧ Hid (∀ j, j < k → 128 ≤ I.at' l j)) (fun i => l.length - (intOf i).toNat)
  case atStart => exact ⟨0, Nat.zero_le _, by omega, rfl, Lib.hid (fun j h => by omega)⟩
  case round =>
    obtain ⟨k, hk, hk10, rfl, HA⟩ := hrel
    by_cases hlt : k < l.length
    · obtain ⟨ad', e', hc⟩ := hb.at_ hlt
      obtain rfl : ad = ad' := by injection e'
      rw [I.at_eq hlt] at hc
      obtain ⟨x, hx⟩ : ∃ x, I.at' l k = x := ⟨_, rfl⟩
      have hx256 : x < 256 := by rw [← hx]; exact I.at_lt l k
      rw [hx] at hc
      have HX := Lib.hid hx
      clear hx e'
      have hne : ((k : Int) == (l.length : Int)) = false := by rw [beq_eq_false_iff_ne]; omega
      by_cases h10 : k < 10
      · have hne10 : ((k : Int) == 10) = false := by rw [beq_eq_false_iff_ne]; omega
        by_cases hge : 128 ≤ x
        · have hge' : (128 : Int) ≤ x := by omega
          have HS : Hid (∀ j, j < k + 1 → 128 ≤ I.at' l j) := by
            refine Lib.hid (fun j hj => ?_)
            by_cases e : j = k
            · rw [e, HX.out]; exact hge
            · exact HA.out j (by omega)
          go_wp2_with fail
          go_round
          case rel => exact ⟨k + 1, by omega, by omega, by go_num, HS⟩
          case measure => simp [intOf]; omega
        · have hge' : ¬ (128 : Int) ≤ x := by omega
          by_cases h9 : k = 9 ∧ 1 < x
          · have hk9 : ((k : Int) == 9) = true := by rw [beq_iff_eq]; omega
            have hx1 : (1 : Int) < x := by omega
            have HG : Hid (I.GV l 0 [] 7) := Lib.hid ⟨k, hk, HA.out, Or.inr (Or.inl ⟨h9.1, by omega, by have := HX.out; rw [h9.1] at this; omega, rfl, rfl, rfl⟩)⟩
            clear h9
            go_wp2_with fail
            go_ret3
            exact gv_err HG.out
          · have hguard : ((k : Int) == 9) = false ∨ (((k : Int) == 9) = true ∧ ¬ (1 : Int) < x) := by
              by_cases e : k = 9
              · exact Or.inr ⟨by rw [beq_iff_eq]; omega, by omega⟩
              · exact Or.inl (by rw [beq_eq_false_iff_ne]; omega)
            have hx9' : k = 9 → I.at' l 9 ≤ 1 := fun e => by have h2 := HX.out; rw [e] at h2; omega
            by_cases hz : 0 < k ∧ x = 0
            · have HG : Hid (I.GV l 0 [] 6) := Lib.hid ⟨k, hk, HA.out, Or.inr (Or.inr (Or.inl ⟨hlt, by omega, by rw [HX.out]; omega, hx9', hz.1, by rw [HX.out]; exact hz.2, rfl, rfl, rfl⟩))⟩
              obtain ⟨hk0, hx0⟩ := hz
              have hz1 : ((x : Int) == 0) = true := by rw [beq_iff_eq]; omega
              clear h9 hx9' hx0
              rcases hguard with hg | ⟨hg, hg2⟩
              all_goals
                go_wp2_with fail
                go_ret3
                exact gv_err HG.out
            · obtain ⟨T, hT⟩ : ∃ T, I.vv (l.take (k + 1)) = T := ⟨_, rfl⟩
              have hT64 : T < 18446744073709551616 := by rw [← hT]; exact I.vv_total hlt (by omega) (by rw [HX.out]; omega) hx9'
              have HG : Hid (I.GV l T (l.drop (k + 1)) 0) :=
                Lib.hid ⟨k, hk, HA.out, Or.inr (Or.inr (Or.inr ⟨hlt, by omega, by rw [HX.out]; omega, hx9', fun h0 h => hz ⟨h0, by rw [← HX.out]; exact h⟩, hT.symm, rfl, rfl⟩))⟩
              have HLen := Lib.hid (show (l.drop (k + 1)).length = l.length - (k + 1) from List.length_drop)
              have HT := Lib.hid hT
              have hz' : ¬ (0 : Int) < k ∨ ((0 : Int) < k ∧ ((x : Int) == 0) = false) := by
                by_cases e : 0 < k
                · exact Or.inr ⟨by omega, by rw [beq_eq_false_iff_ne]; omega⟩
                · exact Or.inl (by omega)
              clear h9 hx9' hz hT
              rcases hguard with hg | ⟨hg, hg2⟩ <;> rcases hz' with hz1 | ⟨hz1, hz2⟩
              all_goals
                go_wp2_with fail
                go_loop [6, 7] (fun n i => ∃ j M : Nat, j ≤ k + 1 ∧ i = .int .i64 ((j : Int) - 1) ∧ n = .int .u64 M ∧ M < 18446744073709551616 ∧ Hid (M = I.vv ((l.take (k + 1)).drop j))) (fun _ i => (intOf i + 1).toNat)
                case atStart => exact ⟨k + 1, 0, Nat.le_refl _, by go_num, rfl, by omega, Lib.hid I.vv_drop_end.symm⟩
                case round =>
                  obtain ⟨j, M, hj, rfl, rfl, hM, HM⟩ := hrel
                  by_cases hj0 : 1 ≤ j
                  · obtain ⟨i, rfl⟩ : ∃ i, j = i + 1 := ⟨j - 1, by omega⟩
                    obtain ⟨ad2, e2, hci⟩ := hb.at_ (show i < l.length by omega)
                    obtain rfl : ad = ad2 := by injection e2
                    rw [I.at_eq (by omega)] at hci
                    obtain ⟨y, hy⟩ : ∃ y, I.at' l i = y := ⟨_, rfl⟩
                    have hy256 : y < 256 := by rw [← hy]; exact I.at_lt l i
                    rw [hy] at hci
                    have HN : Hid (128 * M + y % 128 = I.vv ((l.take (k + 1)).drop i)) := Lib.hid (by rw [I.vv_drop_step (by omega) hlt, hy, HM.out])
                    have hnext : 128 * M + y % 128 < 18446744073709551616 := by
                      rw [HN.out]; exact Nat.lt_of_le_of_lt (I.vv_drop_le _ _) (by rw [HT.out]; exact hT64)
                    clear hy e2
                    go_wp2_with fail
                    go_round
                    case rel => exact ⟨i, 128 * M + y % 128, by omega, by go_num, I.val_u64 (by (try simp only [I.wrap_u64]); omega), hnext, HN⟩
                    case measure => simp [intOf]
                  · obtain rfl : j = 0 := by omega
                    have hMT : M = T := by rw [HM.out, List.drop_zero, HT.out]
                    subst hMT
                    by_cases hcc : c = k + 1
                    · have HCut := Lib.hid (hb.cut_end (k := k + 1) (by omega) hcc)
                      go_wp2_with fail
                      go_quiet (fail)
                      go_wp2_with fail
                      go_ret3
                      exact gv_ok HLen.out (HCut.out.drewN _) HG.out hT64 (I.below_drewN (Below.refl _ _) _)
                    · have HCut := Lib.hid (hb.cut_far (k := k) (by omega) hcc)
                      go_wp2_with fail
                      go_quiet (fail)
                      go_wp2_with fail
                      go_ret3
                      exact gv_ok HLen.out (HCut.out.drewN _) HG.out hT64 (I.below_drewN (Below.refl _ _) _)
      · have h10' : ((k : Int) == 10) = true := by rw [beq_iff_eq]; omega
        have HG : Hid (I.GV l 0 [] 7) := Lib.hid ⟨9, by omega, fun j hj => HA.out j (by omega), Or.inr (Or.inl ⟨rfl, by omega, by have := HA.out 9 (by omega); omega, rfl, rfl, rfl⟩)⟩
        go_wp2_with fail
        go_ret3
        exact gv_err HG.out
    · have heq : ((k : Int) == (l.length : Int)) = true := by rw [beq_iff_eq]; omega
      by_cases h10 : k < 10
      · have HG : Hid (I.GV l 0 [] 10) := Lib.hid ⟨k, hk, HA.out, Or.inl ⟨by omega, by omega, rfl, rfl, rfl⟩⟩
        go_wp2_with fail
        go_ret3
        exact gv_err HG.out
      · have h10' : ((k : Int) == 10) = true := by rw [beq_iff_eq]; omega
        have HG : Hid (I.GV l 0 [] 7) := Lib.hid ⟨9, by omega, fun j hj => HA.out j (by omega), Or.inr (Or.inl ⟨rfl, by omega, by have := HA.out 9 (by omega); omega, rfl, rfl, rfl⟩)⟩
        go_wp2_with fail
        go_ret3
        exact gv_err HG.out
set_option maxHeartbeats 400000 in
theorem RGetVar_any (A : Option Addr) (c : Nat) (l : List UInt8) (w : World) (hb : BytesIn w w.heap.size A c l) (hl : l.length ≤ 100000) :
    Calls Try.prog 18 #[.slice A l.length c] w (GvPost l w) := by
  cases A with
  | some ad => exact RGetVar_some ad c l w hb hl
  | none =>
    obtain ⟨rfl, rfl⟩ := hb.none_ rfl
    clear hb hl
    go_enter Try.func18, Try.ntmps18
    go_wp2_with fail
    go_loop [5] (fun i => i = .int .i64 0) (fun _ => 0)
    case atStart => exact rfl
    case round =>
      obtain rfl := hrel
      go_wp2_with fail
      go_ret3
      exact gv_err I.gv_nil
end Go.Proofs.Ythopdpgjfmpgkaa
