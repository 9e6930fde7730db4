/- The contract of words.readEscaped: one byte in quotes is read. -/
import Derived.Test.YtbjfpmklmhgbdaaDoorWordsEsc
import Derived.Test.YtbjfpmklmhgbdaaDoorWordsDig
import Derived.Deep.QuietTactic
import Derived.BigQuiet
namespace Go.Proofs.YtbjfpmklmhgbdaaDoor
open Go.RowKit
namespace W
/-- What a digit of base 16 is worth (-1: it is none). -/
def hexI (c : Int) : Int := if 48 ≤ c ∧ c ≤ 57 then c - 48 else if 97 ≤ c ∧ c ≤ 102 then c - 87 else -1
def hexDigs : List UInt8 := [48, 49, 50, 51, 52, 53, 54, 55, 56, 57, 97, 98, 99, 100, 101, 102]
theorem hexI_index (c : UInt8) : Lib.indexByte hexDigs c = hexI (c.toNat : Int) := by
  have h : ∀ n, n < 256 → Lib.indexByte hexDigs (UInt8.ofNat n) = hexI (n : Int) := by decide +kernel
  have := h c.toNat (by have := c.toNat_lt; omega)
  rwa [UInt8.ofNat_toNat] at this
/-- The byte that a string begins with, as it is written in quotes, and how many bytes it is written in. -/
def rdC (s : ByteArray) : Int := hexI (at' s 2) * 16 + hexI (at' s 3)
def rdP (s : ByteArray) : Int × Int :=
  if isP (at' s 0) = true then (at' s 0, 1) else if at' s 0 ≠ 92 ∨ s.size < 2 then (0, 0)
  else if at' s 1 ≠ 120 then (if rawB (at' s 1) = true then (rawN (at' s 1), 2) else (0, 0))
  else if s.size < 4 then (0, 0) else if hexI (at' s 2) < 0 ∨ hexI (at' s 3) < 0 then (0, 0)
  else if letB (rdC s) = true ∨ isP (rdC s) = true then (0, 0) else (rdC s, 4)
theorem hexI_at (s : ByteArray) (i : Nat) : Lib.indexByte [48, 49, 50, 51, 52, 53, 54, 55, 56, 57, 97, 98, 99, 100, 101, 102] (UInt8.ofNat (at' s i).toNat) = hexI (at' s i) := by
  have := hexI_index (s.data.toList.getD i 0)
  unfold at'
  rw [Int.toNat_natCast, UInt8.ofNat_toNat]
  exact this
theorem bits_hex (x y : Int) (hx0 : 0 ≤ x) (hx : x ≤ 15) (hy0 : 0 ≤ y) (hy : y ≤ 15) : bits BinOp.or IntKind.i64 (x * 16) y % 256 = x * 16 + y := by
  have h : ∀ a, a < 16 → ∀ b, b < 16 → bits BinOp.or IntKind.i64 ((a : Nat) * 16) ((b : Nat) : Int) % 256 = (a : Int) * 16 + b := by decide +kernel
  have := h x.toNat (by omega) y.toNat (by omega)
  rwa [Int.toNat_of_nonneg hx0, Int.toNat_of_nonneg hy0] at this
theorem hexI_le (c : Int) : hexI c ≤ 15 := by unfold hexI; split; omega; split <;> omega
end W
theorem EscIn.below {w w1 : World} (h : EscIn w) (hb : Below w.heap.size w w1) : EscIn w1 := by
  obtain ⟨t, fr, h⟩ := h
  exact ⟨t, fr, (hb.block 0 (Array.getElem?_eq_some_iff.1 h).1).trans h⟩
theorem ret_bk {a b c d : Int} (h : (c, d) = (a, b)) : Ending.returned (.tuple #[.int .u8 a, .int .i64 b]) = .returned (.tuple #[.int .u8 c, .int .i64 d]) := by
  injection h with h1 h2
  rw [h1, h2]

set_option maxRecDepth 100000 in
set_option maxHeartbeats 1000000 in
theorem readEscaped_any (s : ByteArray) (w : World) (hE : EscIn w) (hp : 0 < s.size) (hs : s.size ≤ maxLen) :
    Calls Tryd.prog 61 #[.string s] w fun e w' => e = .returned (.tuple #[.int .u8 (W.rdP s).1, .int .i64 (W.rdP s).2]) ∧ Below w.heap.size w w' := by
  unfold maxLen at hs
  have a0 := W.at_get s 0 hp
  by_cases h0 : W.isP ((s[0]'hp).toNat : Int) = true
  case pos =>
    have hr : W.rdP s = (((s[0]'hp).toNat : Int), 1) := by unfold W.rdP; rw [← a0, if_pos h0]
    have Hr := Lib.hid hr
    clear hr a0
    go_enter Tryd.func61, Tryd.ntmps61
    go_wp2_with (first | (go_at_call 62; refine (isPlain_any _ _).mono ?_; rintro e w' ⟨rfl, rfl⟩))
    go_ret2
    exact ⟨ret_bk (by rw [Hr.out]), Below.refl _ _⟩
  case neg =>
  by_cases h1 : (((s[0]'hp).toNat : Int) != 92) = true
  case pos =>
    have hr : W.rdP s = (0, 0) := by unfold W.rdP; rw [← a0, if_neg h0, if_pos (Or.inl (by simpa using h1))]
    have Hr := Lib.hid hr
    clear hr a0
    go_enter Tryd.func61, Tryd.ntmps61
    go_wp2_with (first | (go_at_call 62; refine (isPlain_any _ _).mono ?_; rintro e w' ⟨rfl, rfl⟩))
    go_ret2
    exact ⟨ret_bk (by rw [Hr.out]), Below.refl _ _⟩
  case neg =>
  have h1' : W.at' s 0 = 92 := by rw [← a0]; simpa using h1
  by_cases h2 : 2 ≤ s.size
  case neg =>
    have hr : W.rdP s = (0, 0) := by unfold W.rdP; rw [← a0, if_neg h0, if_pos (Or.inr (by omega))]
    have Hr := Lib.hid hr
    clear hr a0 h1'
    go_enter Tryd.func61, Tryd.ntmps61
    go_wp2_with (first | (go_at_call 62; refine (isPlain_any _ _).mono ?_; rintro e w' ⟨rfl, rfl⟩))
    go_ret2
    exact ⟨ret_bk (by rw [Hr.out]), Below.refl _ _⟩
  case pos =>
  have hp1 : 1 < s.size := h2
  have a1 := W.at_get s 1 hp1
  by_cases h3 : (((s[1]'hp1).toNat : Int) != 120) = true
  case pos =>
    by_cases h4 : W.rawB ((s[1]'hp1).toNat : Int) = true
    · have hr : W.rdP s = (W.rawN ((s[1]'hp1).toNat : Int), 2) := by
        unfold W.rdP; rw [← a0, if_neg h0, if_neg (by rw [a0, h1']; omega), ← a1, if_pos (by simpa using h3), if_pos h4]
      have Hr := Lib.hid hr
      clear hr a0 h1' a1
      go_enter Tryd.func61, Tryd.ntmps61
      go_wp2_with (first | (go_at_call 62; refine (isPlain_any _ _).mono ?_; rintro e w' ⟨rfl, rfl⟩) | (go_at_call 88; refine (rawOf_any _ _ hE).mono ?_; rintro e w1 ⟨rfl, hb⟩))
      go_ret2
      exact ⟨ret_bk (by rw [Hr.out]), hb⟩
    · have hr : W.rdP s = (0, 0) := by
        unfold W.rdP; rw [← a0, if_neg h0, if_neg (by rw [a0, h1']; omega), ← a1, if_pos (by simpa using h3), if_neg h4]
      have Hr := Lib.hid hr
      clear hr a0 h1' a1
      go_enter Tryd.func61, Tryd.ntmps61
      go_wp2_with (first | (go_at_call 62; refine (isPlain_any _ _).mono ?_; rintro e w' ⟨rfl, rfl⟩) | (go_at_call 88; refine (rawOf_any _ _ hE).mono ?_; rintro e w1 ⟨rfl, hb⟩))
      go_ret2
      exact ⟨ret_bk (by rw [Hr.out]), hb⟩
  case neg =>
  have h3' : W.at' s 1 = 120 := by rw [← a1]; simpa using h3
  by_cases h4 : 4 ≤ s.size
  case neg =>
    have hr : W.rdP s = (0, 0) := by
      unfold W.rdP; rw [← a0, if_neg h0, if_neg (by rw [a0, h1']; omega), if_neg (by rw [h3']; simp), if_pos (by omega)]
    have Hr := Lib.hid hr
    clear hr a0 h1' a1 h3'
    go_enter Tryd.func61, Tryd.ntmps61
    go_wp2_with (first | (go_at_call 62; refine (isPlain_any _ _).mono ?_; rintro e w' ⟨rfl, rfl⟩))
    go_ret2
    exact ⟨ret_bk (by rw [Hr.out]), Below.refl _ _⟩
  case pos =>
  have hp2 : 2 < s.size := by omega
  have hp3 : 3 < s.size := by omega
  have a2 := W.at_get s 2 hp2
  have a3 := W.at_get s 3 hp3
  have hI2 := W.hexI_at s 2
  have hI3 := W.hexI_at s 3
  have hr0 : W.rdP s = if W.hexI (W.at' s 2) < 0 ∨ W.hexI (W.at' s 3) < 0 then (0, 0) else if W.letB (W.rdC s) = true ∨ W.isP (W.rdC s) = true then (0, 0) else (W.rdC s, 4) := by
    unfold W.rdP; rw [← a0, if_neg h0, if_neg (by rw [a0, h1']; omega), if_neg (by rw [h3']; simp), if_neg (by omega)]
  have Hr := Lib.hid hr0
  have l2 := W.hexI_le (W.at' s 2)
  have l3 := W.hexI_le (W.at' s 3)
  clear a0 a1 h1' h3' hr0
  by_cases h5 : W.hexI (W.at' s 2) < 0 ∨ W.hexI (W.at' s 3) < 0
  case pos =>
    go_enter Tryd.func61, Tryd.ntmps61
    go_wp2_with (first | (go_at_call 62; refine (isPlain_any _ _).mono ?_; rintro e w' ⟨rfl, rfl⟩))
    go_quiet ((go_at_call 89; exact Calls.quiet_of_same (Tryd.strings_IndexByte _ _ _)))
    go_wp2_with fail
    all_goals
      go_ret2
      exact ⟨ret_bk (by rw [Hr.out, if_pos h5]), below_drewN (Below.refl _ _) _⟩
  case neg =>
  have h6 : 0 ≤ W.hexI (W.at' s 2) := by omega
  have h7 : 0 ≤ W.hexI (W.at' s 3) := by omega
  have Hc : Hid (W.rdC s = W.hexI (W.at' s 2) * 16 + W.hexI (W.at' s 3)) := Lib.hid rfl
  have hbit : bits BinOp.or IntKind.i64 (W.hexI (W.at' s 2) * 16) (W.hexI (W.at' s 3)) % 256 = W.rdC s := W.bits_hex _ _ h6 l2 h7 l3
  have H5 := Lib.hid h5
  clear h5
  have hEd : ∀ n, EscIn (w.drewN n) := fun n => hE.below (below_drewN (Below.refl _ _) n)
  have HEd := Lib.hid hEd
  clear hEd
  by_cases h8 : W.letB (W.rdC s) = true <;> by_cases h9 : W.isP (W.rdC s) = true
  all_goals
    go_enter Tryd.func61, Tryd.ntmps61
    go_wp2_with (first | (go_at_call 62; refine (isPlain_any _ _).mono ?_; rintro e w' ⟨rfl, rfl⟩))
    go_quiet ((go_at_call 89; exact Calls.quiet_of_same (Tryd.strings_IndexByte _ _ _)))
    go_wp2_with (first | (go_at_call 62; refine (isPlain_any _ _).mono ?_; rintro e w' ⟨rfl, rfl⟩) | (go_at_call 63; refine (letterOf_any _ _ (HEd.out _)).mono ?_; rintro e w1 ⟨rfl, hb⟩))
    go_ret2
    refine ⟨ret_bk ?_, bt (below_drewN (Below.refl _ _) _) hb⟩
    rw [Hr.out, if_neg H5.out]
    first
      | rw [if_pos (Or.inl h8)]
      | rw [if_pos (Or.inr h9)]
      | rw [if_neg (by rintro (h | h); exact h8 h; exact h9 h)]

end Go.Proofs.YtbjfpmklmhgbdaaDoor
