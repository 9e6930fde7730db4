/- Contract of the reference's Shift. -/
import Derived.Test.YthopdpgjfmpgkaaInts9
namespace Go.Proofs.Ythopdpgjfmpgkaa
open Go.RowKit
namespace I
theorem val_i64 {a b : Int} (h : a = b) : Value.int .i64 a = .int .i64 b := by rw [h]
theorem clamp_mono {x y : Int} (h : x ≤ y) : clamp x ≤ clamp y := by unfold clamp; split <;> split <;> (try split) <;> (try split) <;> omega
theorem mul_ge {x : Int} {p : Nat} (hp : 0 < p) (h : 0 ≤ x) : x ≤ x * (p : Int) := by
  have := Int.mul_le_mul_of_nonneg_left (show (1 : Int) ≤ p by omega) h
  omega
theorem mul_le {x : Int} {p : Nat} (hp : 0 < p) (h : x ≤ 0) : x * (p : Int) ≤ x := by
  have := Int.mul_le_mul_of_nonpos_left h (show (1 : Int) ≤ p by omega)
  omega
theorem clamp_again (x : Int) {p : Nat} (hp : 0 < p) : clamp (clamp x * (p : Int)) = clamp (x * (p : Int)) := by
  by_cases h1 : x < -9223372036854775808
  · rw [clamp_lo h1]
    have a1 := mul_le (x := x) hp (by omega)
    have a2 := mul_le (x := -9223372036854775808) hp (by omega)
    rw [clamp_lo (x := x * p) (by omega)]
    by_cases e : (-9223372036854775808 : Int) * (p : Int) < -9223372036854775808
    · exact clamp_lo e
    · have : (-9223372036854775808 : Int) * (p : Int) = -9223372036854775808 := by omega
      rw [this]; rfl
  · by_cases h2 : 9223372036854775807 < x
    · rw [clamp_hi h2]
      have a1 := mul_ge (x := x) hp (by omega)
      have a2 := mul_ge (x := 9223372036854775807) hp (by omega)
      rw [clamp_hi (x := x * p) (by omega)]
      by_cases e : 9223372036854775807 < (9223372036854775807 : Int) * (p : Int)
      · exact clamp_hi e
      · have : (9223372036854775807 : Int) * (p : Int) = 9223372036854775807 := by omega
        rw [this]; rfl
    · rw [clamp_in (x := x) (by omega) (by omega)]
theorem shf_step (x : Int) (j : Nat) : clamp (clamp (x * 2) * ((2 ^ j : Nat) : Int)) = clamp (x * ((2 ^ (j + 1) : Nat) : Int)) := by
  rw [clamp_again _ (pow_pos j), Int.mul_assoc]
  congr 2
  rw [Nat.pow_succ, Int.natCast_mul, Int.mul_comm]
  rfl
theorem shf_still {x : Int} {j : Nat} (h : x = 0 ∨ x = 9223372036854775807 ∨ x = -9223372036854775808) : clamp (x * ((2 ^ j : Nat) : Int)) = x := by
  have hp := pow_pos j
  rcases h with rfl | rfl | rfl
  · rw [Int.zero_mul]; rfl
  · have a2 := mul_ge (x := 9223372036854775807) hp (by omega)
    by_cases e : 9223372036854775807 < (9223372036854775807 : Int) * ((2 ^ j : Nat) : Int)
    · exact clamp_hi e
    · have : (9223372036854775807 : Int) * ((2 ^ j : Nat) : Int) = 9223372036854775807 := by omega
      rw [this]; rfl
  · have a2 := mul_le (x := -9223372036854775808) hp (by omega)
    by_cases e : (-9223372036854775808 : Int) * ((2 ^ j : Nat) : Int) < -9223372036854775808
    · exact clamp_lo e
    · have : (-9223372036854775808 : Int) * ((2 ^ j : Nat) : Int) = -9223372036854775808 := by omega
      rw [this]; rfl
theorem shf_zero {x : Int} (h1 : -9223372036854775808 ≤ x) (h2 : x ≤ 9223372036854775807) : clamp (x * ((2 ^ 0 : Nat) : Int)) = x := by
  have : x * ((2 ^ 0 : Nat) : Int) = x := by simp
  rw [this]; exact clamp_in h1 h2
theorem down_step (x : Int) (j : Nat) : x / 2 / ((2 ^ j : Nat) : Int) = x / ((2 ^ (j + 1) : Nat) : Int) := by
  rw [Int.ediv_ediv_of_nonneg (by decide), Nat.pow_succ, Int.natCast_mul, Int.mul_comm]
  rfl
theorem down_zero (x : Int) : x / ((2 ^ 0 : Nat) : Int) = x := by simp
theorem down_still {x : Int} {j : Nat} (h : x = 0 ∨ x = -1) : x / ((2 ^ j : Nat) : Int) = x := by
  have hp := pow_pos j
  rcases h with rfl | rfl
  · simp
  · have e : (-1 : Int) = (((2 ^ j : Nat) : Int) - 1) + (-1) * ((2 ^ j : Nat) : Int) := by omega
    conv => lhs; rw [e]
    rw [Int.add_mul_ediv_right _ _ (by omega), Int.ediv_eq_zero_of_lt (by omega) (by omega)]
    rfl
theorem half_neg {X : Int} (h : X < 0) (h1 : -9223372036854775808 ≤ X) : wrap64 (-wrap64 (wrap64 (-(X + 1).tdiv 2) + 1)) = X / 2 := by
  obtain ⟨Y, rfl⟩ : ∃ Y, X = -Y - 1 := ⟨-X - 1, by omega⟩
  have e : -Y - 1 + 1 = -Y := by omega
  rw [e, Int.neg_tdiv, Int.tdiv_eq_ediv_of_nonneg (by omega)]
  unfold wrap64
  omega
end I
set_option maxHeartbeats 1000000 in
theorem RShift_pos (a : Int) (K : Nat) (ha1 : -9223372036854775808 ≤ a) (ha2 : a ≤ 9223372036854775807) (hK : (K : Int) ≤ 9223372036854775807) (w : World) :
    Calls Try.prog 40 #[.int .i64 a, .int .i64 K] w fun e w' => e = .returned (.int .i64 (I.shfV a K)) ∧ w = w' := by
  have HS := Lib.hid (I.shf_pos (a := a) K)
  go_enter Try.func40, Try.ntmps40
  go_wp2_with fail
  go_loop [0, 1] (fun x i => ∃ (X : Int) (j : Nat), j ≤ K ∧ i = .int .i64 j ∧ x = .int .i64 X ∧ -9223372036854775808 ≤ X ∧ X ≤ 9223372036854775807 ∧ Hid (I.clamp (X * ((2 ^ j : Nat) : Int)) = I.shfV a K)) (fun _ i => (intOf i).toNat)
  case atStart => exact ⟨a, K, Nat.le_refl _, rfl, rfl, ha1, ha2, Lib.hid HS.out.symm⟩
  case round =>
    obtain ⟨X, j, hj, rfl, rfl, hX1, hX2, HX⟩ := hrel
    by_cases hgo : 0 < j ∧ X ≠ 0 ∧ X ≠ 9223372036854775807 ∧ X ≠ -9223372036854775808
    · obtain ⟨h1, h2, h3, h4⟩ := hgo
      obtain ⟨i, rfl⟩ : ∃ i, j = i + 1 := ⟨j - 1, by omega⟩
      have HN : Hid (I.clamp (I.clamp (X * 2) * ((2 ^ i : Nat) : Int)) = I.shfV a K) := Lib.hid ((I.shf_step X i).trans HX.out)
      have hb := I.clamp_bd (X * 2)
      have g1 : (0 : Int) < ((i + 1 : Nat) : Int) := by omega
      have g2 := I.bne_of h2
      have g3 := I.bne_of h3
      have g4 := I.bne_of h4
      clear h2 h3 h4
      go_wp2_with fail
      refine (RMul_any X 2 hX1 hX2 (by omega) (by omega) _).mono ?_
      rintro e w' ⟨rfl, rfl⟩
      go_wp2_with fail
      go_round
      case rel => exact ⟨I.clamp (X * 2), i, by omega, by go_num, rfl, hb.1, hb.2, HN⟩
      case measure => simp [intOf]
    · have HV : Hid (I.shfV a K = X) := by
        rw [← HX.out]
        by_cases h0 : j = 0
        · subst h0; exact Lib.hid (I.shf_zero hX1 hX2)
        · exact Lib.hid (I.shf_still (by omega))
      have HXB := Lib.hid (And.intro hX1 hX2)
      by_cases h0 : j = 0
      · subst h0
        clear hgo
        go_wp2_with fail
        go_loop [0, 1] (fun x i => x = .int .i64 X ∧ i = .int .i64 0) (fun _ _ => 0)
        case atStart => exact ⟨rfl, rfl⟩
        case round =>
          obtain ⟨rfl, rfl⟩ := hrel
          go_wp2_with fail
          go_ret
          exact ⟨I.ret_i64 HV.out, rfl⟩
      · have hj0 : (0 : Int) < (j : Int) := by omega
        have hspec : X = 0 ∨ X = 9223372036854775807 ∨ X = -9223372036854775808 := by omega
        clear hgo h0
        rcases hspec with rfl | rfl | rfl
        all_goals
          go_wp2_with fail
          go_loop [0, 1] (fun x i => x = .int .i64 _ ∧ i = .int .i64 j) (fun _ _ => 0)
          case atStart => exact ⟨rfl, rfl⟩
          case round =>
            obtain ⟨rfl, rfl⟩ := hrel
            go_wp2_with fail
            go_ret
            exact ⟨I.ret_i64 HV.out, rfl⟩
set_option maxHeartbeats 1000000 in
theorem RShift_neg (a : Int) (K : Nat) (hK0 : 0 < K) (ha1 : -9223372036854775808 ≤ a) (ha2 : a ≤ 9223372036854775807) (hK : (K : Int) ≤ 9223372036854775808) (w : World) :
    Calls Try.prog 40 #[.int .i64 a, .int .i64 (-(K : Int))] w fun e w' => e = .returned (.int .i64 (I.shfV a (-(K : Int)))) ∧ w = w' := by
  have HS := Lib.hid (show I.shfV a (-(K : Int)) = a / ((2 ^ K : Nat) : Int) by rw [I.shf_neg (by omega), Int.neg_neg, Int.toNat_natCast])
  have hneg : ¬ (0 : Int) < -(K : Int) := by omega
  go_enter Try.func40, Try.ntmps40
  go_wp2_with fail
  go_loop [0, 1] (fun x i => x = .int .i64 a ∧ i = .int .i64 (-(K : Int))) (fun _ _ => 0)
  case atStart => exact ⟨rfl, rfl⟩
  case round =>
    obtain ⟨rfl, rfl⟩ := hrel
    go_wp2_with fail
    go_loop [0, 1] (fun x i => ∃ (X : Int) (j : Nat), j ≤ K ∧ i = .int .i64 (-(j : Int)) ∧ x = .int .i64 X ∧ -9223372036854775808 ≤ X ∧ X ≤ 9223372036854775807 ∧ Hid (X / ((2 ^ j : Nat) : Int) = I.shfV a (-(K : Int)))) (fun _ i => (-(intOf i)).toNat)
    case atStart => exact ⟨a, K, Nat.le_refl _, rfl, rfl, ha1, ha2, Lib.hid HS.out.symm⟩
    case round =>
      obtain ⟨X, j, hj, rfl, rfl, hX1, hX2, HX⟩ := hrel
      by_cases hgo : 0 < j ∧ X ≠ 0 ∧ X ≠ -1
      · obtain ⟨h1, h2, h3⟩ := hgo
        obtain ⟨i, rfl⟩ : ∃ i, j = i + 1 := ⟨j - 1, by omega⟩
        have HN : Hid (X / 2 / ((2 ^ i : Nat) : Int) = I.shfV a (-(K : Int))) := Lib.hid ((I.down_step X i).trans HX.out)
        have g1 : -((i + 1 : Nat) : Int) < 0 := by omega
        have g2 := I.bne_of h2
        have g3 := I.bne_of h3
        have HX2 := Lib.hid h2
        clear h2 h3
        by_cases hn : X < 0
        · have hn1 : X + 1 ≤ 0 := by omega
          go_wp2_with fail
          go_round
          case rel => exact ⟨X / 2, i, by omega, I.val_i64 (by omega), I.val_i64 (I.half_neg hn hX1), by omega, by omega, HN⟩
          case measure => simp [intOf]; omega
        · have hn0 : 0 ≤ X := by omega
          go_wp2_with fail
          go_round
          case rel => exact ⟨X / 2, i, by omega, I.val_i64 (by omega), rfl, by omega, by omega, HN⟩
          case measure => simp [intOf]; omega
      · by_cases h0 : j = 0
        · subst h0
          have HV : Hid (I.shfV a (-(K : Int)) = X) := by rw [← HX.out]; exact Lib.hid (I.down_zero X)
          clear hgo
          go_wp2_with fail
          go_ret
          exact ⟨I.ret_i64 HV.out, rfl⟩
        · have hj0 : -(j : Int) < 0 := by omega
          have hspec : X = 0 ∨ X = -1 := by omega
          have HV : Hid (I.shfV a (-(K : Int)) = X) := by rw [← HX.out]; exact Lib.hid (I.down_still hspec)
          clear hgo h0
          rcases hspec with rfl | rfl
          all_goals
            go_wp2_with fail
            go_ret
            exact ⟨I.ret_i64 HV.out, rfl⟩
theorem RShift_any (a k : Int) (ha1 : -9223372036854775808 ≤ a) (ha2 : a ≤ 9223372036854775807) (hk1 : -9223372036854775808 ≤ k) (hk2 : k ≤ 9223372036854775807) (w : World) :
    Calls Try.prog 40 #[.int .i64 a, .int .i64 k] w fun e w' => e = .returned (.int .i64 (I.shfV a k)) ∧ w = w' := by
  by_cases hk : k < 0
  · obtain ⟨K, hKk⟩ := Int.eq_ofNat_of_zero_le (show 0 ≤ -k by omega)
    obtain rfl : k = -(K : Int) := by omega
    exact RShift_neg a K (by omega) ha1 ha2 (by omega) w
  · obtain ⟨K, rfl⟩ := Int.eq_ofNat_of_zero_le (show 0 ≤ k by omega)
    exact RShift_pos a K ha1 ha2 hk2 w
end Go.Proofs.Ythopdpgjfmpgkaa
