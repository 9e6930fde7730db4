/- Contracts of package words and of its reference: bytes and names. What each call returns; nothing is written. -/
import Derived.Test.YtbjfpmklmhgbdaaDoorProg
import Derived.WalkKit
import Derived.WalkSpells
import Derived.WalkLawsBesides
import Derived.Lib.Hide
namespace Go.Proofs.YtbjfpmklmhgbdaaDoor
open Go.RowKit

namespace W
/-- A lower-case letter. -/
def isL (c : Int) : Bool := decide (97 ≤ c) && decide (c ≤ 122)
/-- A digit. -/
def isD (c : Int) : Bool := decide (48 ≤ c) && decide (c ≤ 57)
/-- What stands for itself between quotes. -/
def isP (c : Int) : Bool := decide (32 ≤ c) && decide (c ≤ 126) && !(c == 34) && !(c == 92)
/-- The byte at a place, as a number. -/
def at' (s : ByteArray) (i : Nat) : Int := ((s.data.toList.getD i 0).toNat : Int)
/-- What a name's later bytes may be. -/
def nmOk (c : Int) : Bool := isL c || isD c || c == 45
/-- What a name is. -/
def nameB (s : ByteArray) : Bool := decide (1 ≤ s.size ∧ s.size ≤ 16 ∧ isL (at' s 0) = true ∧ ∀ i, i < s.size → 1 ≤ i → nmOk (at' s i) = true)
theorem at_get (s : ByteArray) (i : Nat) (h : i < s.size) : ((s[i].toNat : Nat) : Int) = at' s i := by
  have h' : i < s.data.toList.length := by simpa using h
  unfold at'
  rw [List.getD_eq_getElem?_getD, List.getElem?_eq_getElem h']
  rfl
theorem nmOk_of {c : Int} (h : isL c = true ∨ isD c = true ∨ c = 45) : nmOk c = true := by
  unfold nmOk
  rcases h with h | h | h <;> simp [h]
theorem nmOk_no {c : Int} (h1 : ¬ isL c = true) (h2 : ¬ isD c = true) (h3 : (c != 45) = true) : nmOk c = false := by
  unfold nmOk
  simp at h1 h2 h3
  simp [h1, h2, h3]
/-- The bytes before place k, but for the first one, are those of a name. -/
def Later (s : ByteArray) (k : Nat) : Prop := ∀ i, i < k → 1 ≤ i → nmOk (at' s i) = true
theorem later_start (s : ByteArray) (k : Nat) (h : k ≤ 1) : Later s k := fun i h1 h2 => absurd h1 (by omega)
theorem later_step {s : ByteArray} {k : Nat} (h : Later s k) (hk : nmOk (at' s k) = true) : Later s (k + 1) := by
  intro i h1 h2
  by_cases e : i = k
  · rw [e]; exact hk
  · exact h i (by omega) h2
theorem isL_nm {c : Int} (h : isL c = true) : nmOk c = true := nmOk_of (Or.inl h)
theorem nameB_no {s : ByteArray} {k : Nat} (hk : k < s.size) (h : nmOk (at' s k) = false) (h0 : 0 < s.size) (hl : isL ((s[0]'h0).toNat : Int) = true) : nameB s = false := by
  rw [at_get] at hl
  have h1 : 1 ≤ k := by
    by_cases e : k = 0
    · rw [e, isL_nm hl] at h; cases h
    · omega
  unfold nameB
  apply decide_eq_false
  rintro ⟨_, _, _, hall⟩
  rw [hall k hk h1] at h
  cases h
theorem nameB_yes {s : ByteArray} (h0 : 1 ≤ s.size) (h1 : s.size ≤ 16) (hl : isL (at' s 0) = true) (h : Later s s.size) : nameB s = true :=
  decide_eq_true ⟨h0, h1, hl, h⟩
end W
theorem ret_bool {a b : Bool} (h : b = a) : Ending.returned (.bool a) = .returned (.bool b) := by rw [h]

set_option maxHeartbeats 400000 in
theorem isLetter_any (c : Int) (w : World) :
    Calls Tryd.prog 33 #[.int .u8 c] w fun e w' => e = .returned (.bool (W.isL c)) ∧ w = w' := by
  by_cases h1 : 97 ≤ c <;> by_cases h2 : c ≤ 122
  all_goals
    go_enter Tryd.func33, Tryd.ntmps33
    go_wp2
    go_ret
    exact ⟨by simp [W.isL, h1, h2], rfl⟩

set_option maxHeartbeats 400000 in
theorem isDigit_any (c : Int) (w : World) :
    Calls Tryd.prog 34 #[.int .u8 c] w fun e w' => e = .returned (.bool (W.isD c)) ∧ w = w' := by
  by_cases h1 : 48 ≤ c <;> by_cases h2 : c ≤ 57
  all_goals
    go_enter Tryd.func34, Tryd.ntmps34
    go_wp2
    go_ret
    exact ⟨by simp [W.isD, h1, h2], rfl⟩

set_option maxHeartbeats 400000 in
theorem lower_any (c : Int) (w : World) :
    Calls Tryd.prog 35 #[.int .u8 c] w fun e w' => e = .returned (.bool (W.isL c)) ∧ w = w' := by
  by_cases h1 : 97 ≤ c <;> by_cases h2 : c ≤ 122
  all_goals
    go_enter Tryd.func35, Tryd.ntmps35
    go_wp2
    go_ret
    exact ⟨by simp [W.isL, h1, h2], rfl⟩

set_option maxHeartbeats 400000 in
theorem digit_any (c : Int) (w : World) :
    Calls Tryd.prog 36 #[.int .u8 c] w fun e w' => e = .returned (.bool (W.isD c)) ∧ w = w' := by
  by_cases h1 : 48 ≤ c <;> by_cases h2 : c ≤ 57
  all_goals
    go_enter Tryd.func36, Tryd.ntmps36
    go_wp2
    go_ret
    exact ⟨by simp [W.isD, h1, h2], rfl⟩

set_option maxHeartbeats 400000 in
theorem isPlain_any (c : Int) (w : World) :
    Calls Tryd.prog 62 #[.int .u8 c] w fun e w' => e = .returned (.bool (W.isP c)) ∧ w = w' := by
  by_cases h1 : 32 ≤ c <;> by_cases h2 : c ≤ 126 <;> by_cases h3 : c = 34 <;> by_cases h4 : c = 92
  all_goals
    go_enter Tryd.func62, Tryd.ntmps62
    go_wp2
    go_ret
    exact ⟨by simp [W.isP, h1, h2, h3, h4, bne], rfl⟩

set_option maxHeartbeats 400000 in
theorem plain_any (c : Int) (w : World) :
    Calls Tryd.prog 64 #[.int .u8 c] w fun e w' => e = .returned (.bool (W.isP c)) ∧ w = w' := by
  by_cases h1 : 32 ≤ c <;> by_cases h2 : c ≤ 126 <;> by_cases h3 : c = 34 <;> by_cases h4 : c = 92
  all_goals
    go_enter Tryd.func64, Tryd.ntmps64
    go_wp2
    go_ret
    exact ⟨by simp [W.isP, h1, h2, h3, h4, bne], rfl⟩

set_option maxHeartbeats 1000000 in
theorem Name_any (s : ByteArray) (w : World) (hs : s.size ≤ maxLen) :
    Calls Tryd.prog 13 #[.string s] w fun e w' => e = .returned (.bool (W.nameB s)) ∧ w = w' := by
  unfold maxLen at hs
  by_cases h0 : 1 ≤ s.size
  case neg =>
    have hn : W.nameB s = false := by unfold W.nameB; simp; omega
    have Hn := Lib.hid hn
    clear hn
    go_enter Tryd.func13, Tryd.ntmps13
    go_wp2_with fail
    go_ret
    exact ⟨ret_bool Hn.out, rfl⟩
  case pos =>
  by_cases h1 : s.size ≤ 16
  case neg =>
    have hn : W.nameB s = false := by unfold W.nameB; simp; omega
    have Hn := Lib.hid hn
    clear hn
    go_enter Tryd.func13, Tryd.ntmps13
    go_wp2_with fail
    go_ret
    exact ⟨ret_bool Hn.out, rfl⟩
  case pos =>
  have hp : 0 < s.size := h0
  by_cases hl : W.isL ((s[0]'hp).toNat : Int) = true
  case neg =>
    have hn : W.nameB s = false := by
      rw [W.at_get] at hl
      unfold W.nameB; simp [hl]
    have Hn := Lib.hid hn
    clear hn
    go_enter Tryd.func13, Tryd.ntmps13
    go_wp2_with (first | (go_at_call 33; refine (isLetter_any _ _).mono ?_; rintro e w' ⟨rfl, rfl⟩))
    go_ret
    exact ⟨ret_bool Hn.out, rfl⟩
  case pos =>
  go_enter Tryd.func13, Tryd.ntmps13
  go_wp2_with (first | (go_at_call 33; refine (isLetter_any _ _).mono ?_; rintro e w' ⟨rfl, rfl⟩))
  have Hl := Lib.hid hl
  clear hl
  go_loop [3] (fun i => ∃ k : Nat, 1 ≤ k ∧ k ≤ s.size ∧ i = .int .i64 k ∧ W.Later s k) (fun i => s.size - (intOf i).toNat)
  case atStart => exact ⟨1, by omega, by omega, rfl, W.later_start s _ (by omega)⟩
  case round =>
    obtain ⟨k, hk1, hk, rfl, hlat⟩ := hrel
    by_cases hlt : k < s.size
    · by_cases hc1 : W.isL ((s[k]'hlt).toNat : Int) = true <;> by_cases hc2 : W.isD ((s[k]'hlt).toNat : Int) = true <;> by_cases hc3 : (((s[k]'hlt).toNat : Int) != 45) = true
      all_goals
        first
          | have hn : W.nmOk ((s[k]'hlt).toNat : Int) = true := W.nmOk_of (by first | exact Or.inl hc1 | exact Or.inr (Or.inl hc2) | exact Or.inr (Or.inr (by simpa using hc3)))
          | have hn : W.nmOk ((s[k]'hlt).toNat : Int) = false := W.nmOk_no hc1 hc2 hc3
        rw [W.at_get] at hn
        have Hn := Lib.hid hn
        clear hn
        go_wp2_with (first | (go_at_call 33; refine (isLetter_any _ _).mono ?_; rintro e w' ⟨rfl, rfl⟩) | (go_at_call 34; refine (isDigit_any _ _).mono ?_; rintro e w' ⟨rfl, rfl⟩))
        first
          | (go_ret; exact ⟨ret_bool (W.nameB_no hlt Hn.out (by omega) Hl.out), rfl⟩)
          | (go_round
             case rel => exact ⟨k + 1, by omega, by omega, by go_num, W.later_step hlat Hn.out⟩
             case measure => simp [intOf]; omega)
    · go_wp2_with fail
      go_ret
      exact ⟨ret_bool (W.nameB_yes h0 h1 (by have := Hl.out; rwa [W.at_get] at this) (by rwa [show k = s.size from by omega] at hlat)), rfl⟩

set_option maxHeartbeats 1000000 in
theorem RName_any (s : ByteArray) (w : World) (hs : s.size ≤ maxLen) :
    Calls Tryd.prog 14 #[.string s] w fun e w' => e = .returned (.bool (W.nameB s)) ∧ w = w' := by
  unfold maxLen at hs
  by_cases h0 : 1 ≤ s.size
  case neg =>
    have hn : W.nameB s = false := by unfold W.nameB; simp; omega
    have Hn := Lib.hid hn
    clear hn
    go_enter Tryd.func14, Tryd.ntmps14
    go_wp2_with fail
    go_ret
    exact ⟨ret_bool Hn.out, rfl⟩
  case pos =>
  by_cases h1 : s.size ≤ 16
  case neg =>
    have hn : W.nameB s = false := by unfold W.nameB; simp; omega
    have Hn := Lib.hid hn
    clear hn
    go_enter Tryd.func14, Tryd.ntmps14
    go_wp2_with fail
    go_ret
    exact ⟨ret_bool Hn.out, rfl⟩
  case pos =>
  have hp : 0 < s.size := h0
  by_cases hl : W.isL ((s[0]'hp).toNat : Int) = true
  case neg =>
    have hn : W.nameB s = false := by
      rw [W.at_get] at hl
      unfold W.nameB; simp [hl]
    have Hn := Lib.hid hn
    clear hn
    go_enter Tryd.func14, Tryd.ntmps14
    go_wp2_with (first | (go_at_call 35; refine (lower_any _ _).mono ?_; rintro e w' ⟨rfl, rfl⟩))
    go_ret
    exact ⟨ret_bool Hn.out, rfl⟩
  case pos =>
  go_enter Tryd.func14, Tryd.ntmps14
  go_wp2_with (first | (go_at_call 35; refine (lower_any _ _).mono ?_; rintro e w' ⟨rfl, rfl⟩))
  have Hl := Lib.hid hl
  clear hl
  go_loop [3] (fun i => ∃ k : Nat, 0 ≤ k ∧ k ≤ s.size ∧ i = .int .i64 k ∧ W.Later s k) (fun i => s.size - (intOf i).toNat)
  case atStart => exact ⟨0, by omega, by omega, rfl, W.later_start s _ (by omega)⟩
  case round =>
    obtain ⟨k, hk1, hk, rfl, hlat⟩ := hrel
    by_cases hlt : k < s.size
    · by_cases hc1 : W.isL ((s[k]'hlt).toNat : Int) = true <;> by_cases hc2 : W.isD ((s[k]'hlt).toNat : Int) = true <;> by_cases hc3 : (((s[k]'hlt).toNat : Int) != 45) = true
      all_goals
        first
          | have hn : W.nmOk ((s[k]'hlt).toNat : Int) = true := W.nmOk_of (by first | exact Or.inl hc1 | exact Or.inr (Or.inl hc2) | exact Or.inr (Or.inr (by simpa using hc3)))
          | have hn : W.nmOk ((s[k]'hlt).toNat : Int) = false := W.nmOk_no hc1 hc2 hc3
        rw [W.at_get] at hn
        have Hn := Lib.hid hn
        clear hn
        go_wp2_with (first | (go_at_call 35; refine (lower_any _ _).mono ?_; rintro e w' ⟨rfl, rfl⟩) | (go_at_call 36; refine (digit_any _ _).mono ?_; rintro e w' ⟨rfl, rfl⟩))
        first
          | (go_ret; exact ⟨ret_bool (W.nameB_no hlt Hn.out (by omega) Hl.out), rfl⟩)
          | (go_round
             case rel => exact ⟨k + 1, by omega, by omega, by go_num, W.later_step hlat Hn.out⟩
             case measure => simp [intOf]; omega)
    · go_wp2_with fail
      go_ret
      exact ⟨ret_bool (W.nameB_yes h0 h1 (by have := Hl.out; rwa [W.at_get] at this) (by rwa [show k = s.size from by omega] at hlat)), rfl⟩

end Go.Proofs.YtbjfpmklmhgbdaaDoor
