/- Contracts of package sha's functions on words: rot, shr, mix, s0, s1, S0, S1, ch, maj. -/
import Derived.Test.YtgpgnfdbjljljaaDoorShaMath
import Derived.Test.YtgpgnfdbjljljaaDoorProg
import Derived.WalkSpells
import Derived.WalkLawsBesides
import Derived.Laws.BitsAllLaws
namespace Go.Proofs.YtgpgnfdbjljljaaDoor
open Go.RowKit
namespace S
theorem ret_u32 {a b : Int} (h : b = a) : Ending.returned (.int .u32 a) = .returned (.int .u32 b) := by rw [h]
theorem rot_lt {x n : Nat} (h : x < 4294967296) : rot x n < 4294967296 := by
  unfold rot
  exact Nat.or_lt_two_pow (n := 32) (Nat.lt_of_le_of_lt (Nat.div_le_self _ _) h) (Nat.mod_lt _ (by decide))
theorem shr_lt {x n : Nat} (h : x < 4294967296) : shr x n < 4294967296 := Nat.lt_of_le_of_lt (Nat.div_le_self _ _) h
theorem xor_lt {x y : Nat} (h : x < 4294967296) (h' : y < 4294967296) : x ^^^ y < 4294967296 := Nat.xor_lt_two_pow (n := 32) h h'
theorem and_lt {x y : Nat} (h' : y < 4294967296) : x &&& y < 4294967296 := Nat.and_lt_two_pow (n := 32) _ h'
theorem or_lt {x y : Nat} (h : x < 4294967296) (h' : y < 4294967296) : x ||| y < 4294967296 := Nat.or_lt_two_pow (n := 32) h h'
theorem s0_lt {x : Nat} (h : x < 4294967296) : s0 x < 4294967296 := xor_lt (xor_lt (rot_lt h) (rot_lt h)) (shr_lt h)
theorem s1_lt {x : Nat} (h : x < 4294967296) : s1 x < 4294967296 := xor_lt (xor_lt (rot_lt h) (rot_lt h)) (shr_lt h)
theorem S0_lt {x : Nat} (h : x < 4294967296) : S0 x < 4294967296 := xor_lt (xor_lt (rot_lt h) (rot_lt h)) (rot_lt h)
theorem S1_lt {x : Nat} (h : x < 4294967296) : S1 x < 4294967296 := xor_lt (xor_lt (rot_lt h) (rot_lt h)) (rot_lt h)
theorem ch_lt {x y z : Nat} (hy : y < 4294967296) (hz : z < 4294967296) : ch x y z < 4294967296 := or_lt (and_lt hy) (and_lt hz)
theorem maj_lt {x y z : Nat} (hy : y < 4294967296) (hz : z < 4294967296) : maj x y z < 4294967296 := or_lt (or_lt (and_lt hy) (and_lt hz)) (and_lt hz)
theorem u32_not (a : Nat) (ha : a < 4294967296) : bits .xor .u32 4294967295 (a : Int) = ((4294967295 - a : Nat) : Int) := by
  show IntKind.u32.wrap ((BitVec.ofInt 32 4294967295 ^^^ BitVec.ofInt 32 (a : Int)).toNat : Int) = _
  have h1 : BitVec.ofInt 32 4294967295 = BitVec.allOnes 32 := by decide
  rw [h1, BitVec.allOnes_xor, BitVec.toNat_not, ofInt_u32 a ha, IntKind.wrap_u32']
  omega
end S

theorem S.rot_eq (x n : Nat) (hx : x < 4294967296) : bits .or .u32 ((x : Int) / 2 ^ n) ((x : Int) * 2 ^ (32 - n) % 4294967296) = (S.rot x n : Nat) := by
  have e1 : (x : Int) / 2 ^ n = ((x / 2 ^ n : Nat) : Int) := by simp
  have e2 : (x : Int) * 2 ^ (32 - n) % 4294967296 = ((x * 2 ^ (32 - n) % 4294967296 : Nat) : Int) := by simp
  rw [e1, e2, u32_or_nat _ _ (Nat.lt_of_le_of_lt (Nat.div_le_self _ _) hx) (Nat.mod_lt _ (by decide))]
  rfl
set_option maxHeartbeats 400000 in
theorem shr_any (x n : Nat) (_hx : x < 4294967296) (hn : n ≤ 31) (w : World) :
    Calls Tryd.prog 84 #[.int .u32 x, .int .u64 n] w fun e w' => e = .returned (.int .u32 (S.shr x n : Nat)) ∧ w = w' := by
  go_enter Tryd.func84, Tryd.ntmps84
  go_wp2
  go_ret
  exact ⟨S.ret_u32 (by unfold S.shr; simp), rfl⟩
set_option maxHeartbeats 400000 in
theorem rot_any (x n : Nat) (hx : x < 4294967296) (hn : n ≤ 31) (w : World) :
    Calls Tryd.prog 85 #[.int .u32 x, .int .u64 n] w fun e w' => e = .returned (.int .u32 (S.rot x n : Nat)) ∧ w = w' := by
  have HC := Lib.hid (show (32 : Int) - (n : Int) = ((32 - n : Nat) : Int) by omega)
  go_enter Tryd.func85, Tryd.ntmps85
  go_wp2
  go_ret
  exact ⟨S.ret_u32 (S.rot_eq x n hx).symm, rfl⟩
theorem S.xor_eq (x y : Nat) (hx : x < 4294967296) (hy : y < 4294967296) : bits .xor .u32 (x : Int) (y : Int) = ((x ^^^ y : Nat) : Int) := u32_xor_nat x y hx hy
set_option maxHeartbeats 400000 in
theorem mix_shr (x i j k : Nat) (hx : x < 4294967296) (hi : i ≤ 31) (hj : j ≤ 31) (hk : k ≤ 31) (w : World) :
    Calls Tryd.prog 83 #[.int .u32 x, .int .u64 i, .int .u64 j, .int .u64 k, .func (Fn.func 84) #[] #[]] w fun e w' => e = .returned (.int .u32 ((S.rot x i ^^^ S.rot x j) ^^^ S.shr x k : Nat)) ∧ w = w' := by
  have h1 := Lib.hid (S.xor_eq (S.rot x i) (S.rot x j) (S.rot_lt hx) (S.rot_lt hx))
  have h2 := Lib.hid (S.xor_eq (S.rot x i ^^^ S.rot x j) (S.shr x k) (S.xor_lt (S.rot_lt hx) (S.rot_lt hx)) (S.shr_lt hx))
  go_enter Tryd.func83, Tryd.ntmps83
  go_wp2_with fail
  refine (rot_any x i hx hi _).mono ?_
  rintro e w' ⟨rfl, rfl⟩
  go_wp2_with fail
  refine (rot_any x j hx hj _).mono ?_
  rintro e w' ⟨rfl, rfl⟩
  go_wp2_with fail
  refine (shr_any x k hx hk _).mono ?_
  rintro e w' ⟨rfl, rfl⟩
  go_wp2_with fail
  go_ret
  exact ⟨S.ret_u32 (by rw [h1.out, h2.out]), rfl⟩
set_option maxHeartbeats 400000 in
theorem mix_rot (x i j k : Nat) (hx : x < 4294967296) (hi : i ≤ 31) (hj : j ≤ 31) (hk : k ≤ 31) (w : World) :
    Calls Tryd.prog 83 #[.int .u32 x, .int .u64 i, .int .u64 j, .int .u64 k, .func (Fn.func 85) #[] #[]] w fun e w' => e = .returned (.int .u32 ((S.rot x i ^^^ S.rot x j) ^^^ S.rot x k : Nat)) ∧ w = w' := by
  have h1 := Lib.hid (S.xor_eq (S.rot x i) (S.rot x j) (S.rot_lt hx) (S.rot_lt hx))
  have h2 := Lib.hid (S.xor_eq (S.rot x i ^^^ S.rot x j) (S.rot x k) (S.xor_lt (S.rot_lt hx) (S.rot_lt hx)) (S.rot_lt hx))
  go_enter Tryd.func83, Tryd.ntmps83
  go_wp2_with fail
  refine (rot_any x i hx hi _).mono ?_
  rintro e w' ⟨rfl, rfl⟩
  go_wp2_with fail
  refine (rot_any x j hx hj _).mono ?_
  rintro e w' ⟨rfl, rfl⟩
  go_wp2_with fail
  refine (rot_any x k hx hk _).mono ?_
  rintro e w' ⟨rfl, rfl⟩
  go_wp2_with fail
  go_ret
  exact ⟨S.ret_u32 (by rw [h1.out, h2.out]), rfl⟩
set_option maxHeartbeats 400000 in
theorem smallS0_any (x : Nat) (hx : x < 4294967296) (w : World) :
    Calls Tryd.prog 77 #[.int .u32 x] w fun e w' => e = .returned (.int .u32 (S.s0 x : Nat)) ∧ w = w' := by
  go_enter Tryd.func77, Tryd.ntmps77
  go_wp2_with fail
  refine (mix_shr x 7 18 3 hx (by decide) (by decide) (by decide) _).mono ?_
  rintro e w' ⟨rfl, rfl⟩
  go_wp2_with fail
  go_ret
  exact ⟨rfl, rfl⟩
set_option maxHeartbeats 400000 in
theorem smallS1_any (x : Nat) (hx : x < 4294967296) (w : World) :
    Calls Tryd.prog 76 #[.int .u32 x] w fun e w' => e = .returned (.int .u32 (S.s1 x : Nat)) ∧ w = w' := by
  go_enter Tryd.func76, Tryd.ntmps76
  go_wp2_with fail
  refine (mix_shr x 17 19 10 hx (by decide) (by decide) (by decide) _).mono ?_
  rintro e w' ⟨rfl, rfl⟩
  go_wp2_with fail
  go_ret
  exact ⟨rfl, rfl⟩
set_option maxHeartbeats 400000 in
theorem bigS0_any (x : Nat) (hx : x < 4294967296) (w : World) :
    Calls Tryd.prog 80 #[.int .u32 x] w fun e w' => e = .returned (.int .u32 (S.S0 x : Nat)) ∧ w = w' := by
  go_enter Tryd.func80, Tryd.ntmps80
  go_wp2_with fail
  refine (mix_rot x 2 13 22 hx (by decide) (by decide) (by decide) _).mono ?_
  rintro e w' ⟨rfl, rfl⟩
  go_wp2_with fail
  go_ret
  exact ⟨rfl, rfl⟩
set_option maxHeartbeats 400000 in
theorem bigS1_any (x : Nat) (hx : x < 4294967296) (w : World) :
    Calls Tryd.prog 78 #[.int .u32 x] w fun e w' => e = .returned (.int .u32 (S.S1 x : Nat)) ∧ w = w' := by
  go_enter Tryd.func78, Tryd.ntmps78
  go_wp2_with fail
  refine (mix_rot x 6 11 25 hx (by decide) (by decide) (by decide) _).mono ?_
  rintro e w' ⟨rfl, rfl⟩
  go_wp2_with fail
  go_ret
  exact ⟨rfl, rfl⟩
theorem S.ch_eq (x y z : Nat) (hx : x < 4294967296) (hy : y < 4294967296) (hz : z < 4294967296) : bits .or .u32 (bits .and .u32 (x : Int) y) (bits .and .u32 (bits .xor .u32 4294967295 x) z) = (S.ch x y z : Nat) := by
  rw [S.u32_not x hx, u32_and_nat x y hx hy, u32_and_nat _ z (by omega) hz, u32_or_nat _ _ (S.and_lt hy) (S.and_lt hz)]
  rfl
theorem S.maj_eq (x y z : Nat) (hx : x < 4294967296) (hy : y < 4294967296) (hz : z < 4294967296) : bits .or .u32 (bits .or .u32 (bits .and .u32 (x : Int) y) (bits .and .u32 (x : Int) z)) (bits .and .u32 (y : Int) z) = (S.maj x y z : Nat) := by
  rw [u32_and_nat x y hx hy, u32_and_nat x z hx hz, u32_and_nat y z hy hz, u32_or_nat _ _ (S.and_lt hy) (S.and_lt hz), u32_or_nat _ _ (S.or_lt (S.and_lt hy) (S.and_lt hz)) (S.and_lt hz)]
  rfl
set_option maxHeartbeats 400000 in
theorem ch_any (x y z : Nat) (hx : x < 4294967296) (hy : y < 4294967296) (hz : z < 4294967296) (w : World) :
    Calls Tryd.prog 79 #[.int .u32 x, .int .u32 y, .int .u32 z] w fun e w' => e = .returned (.int .u32 (S.ch x y z : Nat)) ∧ w = w' := by
  have HE := Lib.hid (S.ch_eq x y z hx hy hz)
  go_enter Tryd.func79, Tryd.ntmps79
  go_wp2
  go_ret
  exact ⟨S.ret_u32 (by rw [← HE.out]; rfl), rfl⟩
set_option maxHeartbeats 400000 in
theorem maj_any (x y z : Nat) (hx : x < 4294967296) (hy : y < 4294967296) (hz : z < 4294967296) (w : World) :
    Calls Tryd.prog 81 #[.int .u32 x, .int .u32 y, .int .u32 z] w fun e w' => e = .returned (.int .u32 (S.maj x y z : Nat)) ∧ w = w' := by
  have HE := Lib.hid (S.maj_eq x y z hx hy hz)
  go_enter Tryd.func81, Tryd.ntmps81
  go_wp2
  go_ret
  exact ⟨S.ret_u32 (by rw [← HE.out]), rfl⟩
end Go.Proofs.YtgpgnfdbjljljaaDoor
