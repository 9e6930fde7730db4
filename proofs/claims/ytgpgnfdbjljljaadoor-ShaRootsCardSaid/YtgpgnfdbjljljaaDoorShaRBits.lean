/- The reference's rot; its ways of choosing and of the majority. -/
import Derived.Test.YtgpgnfdbjljljaaDoorShaEq
namespace Go.Proofs.YtgpgnfdbjljljaaDoor
open Go.RowKit
namespace S
theorem not_bit {x : Nat} (hx : x < 4294967296) (i : Nat) : (4294967295 - x).testBit i = (decide (i < 32) && !x.testBit i) := by
  have := Nat.testBit_two_pow_sub_succ (n := 32) (x := x) hx i
  rwa [show 2 ^ 32 - (x + 1) = 4294967295 - x by omega] at this
theorem high_bit {x : Nat} (hx : x < 4294967296) {i : Nat} (h : ¬ i < 32) : x.testBit i = false :=
  Nat.testBit_lt_two_pow (Nat.lt_of_lt_of_le hx (Nat.pow_le_pow_right (n := 2) (by decide) (by omega) : 2 ^ 32 ≤ 2 ^ i))
theorem ch_xor {x y z : Nat} (hx : x < 4294967296) : (x &&& y) ^^^ ((4294967295 - x) &&& z) = ch x y z := by
  unfold ch
  apply Nat.eq_of_testBit_eq
  intro i
  rw [Nat.testBit_xor, Nat.testBit_or, Nat.testBit_and, Nat.testBit_and, not_bit hx]
  by_cases h : i < 32
  · cases x.testBit i <;> cases y.testBit i <;> cases z.testBit i <;> simp [h]
  · rw [high_bit hx h]; simp [h]
theorem maj_xor (x y z : Nat) : ((x &&& y) ^^^ (x &&& z)) ^^^ (y &&& z) = maj x y z := by
  unfold maj
  apply Nat.eq_of_testBit_eq
  intro i
  simp only [Nat.testBit_xor, Nat.testBit_or, Nat.testBit_and]
  cases x.testBit i <;> cases y.testBit i <;> cases z.testBit i <;> rfl
theorem rch_eq (x y z : Nat) (hx : x < 4294967296) (hy : y < 4294967296) (hz : z < 4294967296) : bits .xor .u32 (bits .and .u32 (x : Int) y) (bits .and .u32 (bits .xor .u32 4294967295 x) z) = (ch x y z : Nat) := by
  rw [u32_not x hx, u32_and_nat x y hx hy, u32_and_nat _ z (by omega) hz, u32_xor_nat _ _ (and_lt hy) (and_lt hz), ch_xor hx]
theorem rmaj_eq (x y z : Nat) (hx : x < 4294967296) (hy : y < 4294967296) (hz : z < 4294967296) : bits .xor .u32 (bits .xor .u32 (bits .and .u32 (x : Int) y) (bits .and .u32 (x : Int) z)) (bits .and .u32 (y : Int) z) = (maj x y z : Nat) := by
  rw [u32_and_nat x y hx hy, u32_and_nat x z hx hz, u32_and_nat y z hy hz, u32_xor_nat _ _ (and_lt hy) (and_lt hz), u32_xor_nat _ _ (xor_lt (and_lt hy) (and_lt hz)) (and_lt hz), maj_xor]
end S
set_option maxHeartbeats 400000 in
theorem rrot_any (x n : Nat) (hx : x < 4294967296) (hn : n ≤ 31) (w : World) :
    Calls Tryd.prog 68 #[.int .u32 x, .int .u64 n] w fun e w' => e = .returned (.int .u32 (S.rot x n : Nat)) ∧ w = w' := by
  go_enter Tryd.func68, Tryd.ntmps68
  go_wp2
  go_ret
  exact ⟨S.ret_u32 (S.rot_eq x n hx).symm, rfl⟩
end Go.Proofs.YtgpgnfdbjljljaaDoor
