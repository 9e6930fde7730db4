/- The contract of package hmac's Equal. -/
import Derived.Test.YtgpgnfdbjljljaaDoorHmMath
namespace Go.Proofs.YtgpgnfdbjljljaaDoor
open Go.RowKit
theorem collect_any (f x y : Nat) (hf : f < 256) (hx : x < 256) (hy : y < 256) (w : World) :
    Calls Tryd.prog 58 #[.int .u8 f, .int .u8 x, .int .u8 y] w fun e w' => e = .returned (.int .u8 ((f ||| (x ^^^ y) : Nat) : Int)) ∧ w = w' := by
  have h1 := u8_xor_nat x y hx hy
  have hz : x ^^^ y < 256 := Nat.xor_lt_two_pow (n := 8) hx hy
  generalize x ^^^ y = z at h1 hz ⊢
  have h2 := u8_or_nat f z hf hz
  generalize f ||| z = r at h2 ⊢
  go_enter Tryd.func58, Tryd.ntmps58
  go_wp2_with fail
  go_ret
  exact ⟨rfl, rfl⟩
theorem collect64_any (f x y : Nat) (hf : f < 18446744073709551616) (hx : x < 18446744073709551616) (hy : y < 18446744073709551616) (w : World) :
    Calls Tryd.prog 59 #[.int .u64 f, .int .u64 x, .int .u64 y] w fun e w' => e = .returned (.int .u64 ((f ||| (x ^^^ y) : Nat) : Int)) ∧ w = w' := by
  have h1 := u64_xor_nat x y hx hy
  have hz : x ^^^ y < 18446744073709551616 := Nat.xor_lt_two_pow (n := 64) hx hy
  generalize x ^^^ y = z at h1 hz ⊢
  have h2 := u64_or_nat f z hf hz
  generalize f ||| z = r at h2 ⊢
  go_enter Tryd.func59, Tryd.ntmps59
  go_wp2_with fail
  go_ret
  exact ⟨rfl, rfl⟩
theorem collect_left (f x : Nat) (hf : f < 256) (hx : x < 256) (w : World) :
    Calls Tryd.prog 58 #[.int .u8 f, .int .u8 x, .int .u8 0] w fun e w' => e = .returned (.int .u8 ((f ||| x : Nat) : Int)) ∧ w = w' := by
  have := collect_any f x 0 hf hx (by decide) w
  rwa [Nat.xor_zero] at this
theorem collect_right (f x : Nat) (hf : f < 256) (hx : x < 256) (w : World) :
    Calls Tryd.prog 58 #[.int .u8 f, .int .u8 0, .int .u8 x] w fun e w' => e = .returned (.int .u8 ((f ||| x : Nat) : Int)) ∧ w = w' := by
  have := collect_any f 0 x hf (by decide) hx w
  rwa [Nat.zero_xor] at this
theorem M.run_slice_cut {P : Program} (w : World) (t e : TypeId) (A : Option Addr) (n c k : Nat) (z : Int) (hu : P.underlying t = some (.slice e)) (hs : (P.info? e).map (·.size) = some 1) (hz : z = (k : Int)) (hk : k ≤ n) :
    (Instr.sliceAt t (.slice A n c) (some (.int .i64 z)) none none).run P w = .ok (.slice (if c = k then A else A.map (·.add k)) (n - k) (c - k)) w := by
  subst hz
  cases hq : P.info? e with
  | none => simp [hq] at hs
  | some i =>
    have hi : i.size = 1 := by simpa [hq] using hs
    simp [Instr.sliceAt, Instr.slice, run_underlying hu, Instr.sliceBounds, Instr.sliceBound, asIntOf, sizeOf, typeInfo, hq, hi, hk]
end Go.Proofs.YtgpgnfdbjljljaaDoor
