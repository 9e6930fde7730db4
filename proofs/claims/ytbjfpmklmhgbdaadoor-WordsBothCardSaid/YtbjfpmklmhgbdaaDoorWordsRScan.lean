/- The contract of the reference's bare, and what its scan to the next space finds. -/
import Derived.Test.YtbjfpmklmhgbdaaDoorWordsIter
namespace Go.Proofs.YtbjfpmklmhgbdaaDoor
open Go.RowKit
namespace W
/-- The whole of a string is a bare field. -/
def bareOk (l : List UInt8) : Bool := decide (bareN l = l.length ∧ 0 < l.length)
end W

set_option maxHeartbeats 1000000 in
theorem RBare_any (s : ByteArray) (w : World) (hs : s.size ≤ maxLen) :
    Calls Tryd.prog 44 #[.string s] w fun e w' => e = .returned (.bool (W.bareOk s.data.toList)) ∧ w = w' := by
  unfold maxLen at hs
  have hsl : s.data.toList.length = s.size := rfl
  have Hsl := Lib.hid hsl
  clear hsl
  go_enter Tryd.func44, Tryd.ntmps44
  go_wp2_with fail
  go_loop [3] (fun i => ∃ k : Nat, k ≤ s.size ∧ i = .int .i64 k ∧ W.Bares s k) (fun i => s.size - (intOf i).toNat)
  case atStart => exact ⟨0, Nat.zero_le _, rfl, fun i hi => absurd hi (by omega)⟩
  case round =>
    obtain ⟨k, hk, rfl, hb⟩ := hrel
    by_cases hlt : k < s.size
    · have hget := W.bareB_get s k hlt
      by_cases hp : W.isP ((s[k]'hlt).toNat : Int) = true
      · by_cases h32 : (((s[k]'hlt).toNat : Int) == 32) = true
        · have h32' : (((s[k]'hlt).toNat : Int) != 32) = false := by simpa using h32
          rw [hp, h32'] at hget
          have Hg := Lib.hid hget
          clear hget h32'
          go_wp2_with (first | (go_at_call 64; refine (plain_any _ _).mono ?_; rintro e w' ⟨rfl, rfl⟩))
          go_ret
          exact ⟨ret_bool (by
            have h1 := W.bare_end hk hb (fun _ => by rw [Hg.out]; rfl)
            unfold W.bareOk
            rw [h1, Hsl.out]
            exact decide_eq_false (by omega)), rfl⟩
        · have h32' : (((s[k]'hlt).toNat : Int) != 32) = true := by simpa using h32
          have h32'' : (((s[k]'hlt).toNat : Int) == 32) = false := by simpa using h32
          rw [hp, h32'] at hget
          have Hg := Lib.hid hget
          clear hget h32' h32
          go_wp2_with (first | (go_at_call 64; refine (plain_any _ _).mono ?_; rintro e w' ⟨rfl, rfl⟩))
          go_round
          case rel => exact ⟨k + 1, by omega, by go_num, W.bares_step hb (by rw [Hg.out]; rfl)⟩
          case measure => simp [intOf]; omega
      · have hp' : W.isP ((s[k]'hlt).toNat : Int) = false := by simpa using hp
        rw [hp'] at hget
        have Hg := Lib.hid hget
        clear hget hp
        go_wp2_with (first | (go_at_call 64; refine (plain_any _ _).mono ?_; rintro e w' ⟨rfl, rfl⟩))
        go_ret
        exact ⟨ret_bool (by
          have h1 := W.bare_end hk hb (fun _ => by rw [Hg.out]; rfl)
          unfold W.bareOk
          rw [h1, Hsl.out]
          exact decide_eq_false (by omega)), rfl⟩
    · go_wp2_with fail
      go_ret
      exact ⟨ret_bool (by
        have h1 := W.bare_end hk hb (fun h => absurd h hlt)
        unfold W.bareOk
        rw [h1, Hsl.out]
        rw [Bool.eq_iff_iff, decide_eq_true_iff, decide_eq_true_iff]
        omega), rfl⟩
namespace W
theorem bareN_in : ∀ (l : List UInt8) (i : Nat), i < bareN l → bareB (l.getD i 0) = true
  | [], i, h => by simp [bareN] at h
  | c :: r, i, h => by
    unfold bareN at h
    rw [List.takeWhile_cons] at h
    split at h
    · rename_i hc
      cases i with
      | zero => simpa using hc
      | succ i => simpa using bareN_in r i (by unfold bareN; simpa using h)
    · simp at h
theorem bareN_out : ∀ (l : List UInt8), bareN l < l.length → bareB (l.getD (bareN l) 0) = false
  | [], h => by simp at h
  | c :: r, h => by
    by_cases hc : bareB c = true
    · have e : bareN (c :: r) = bareN r + 1 := by unfold bareN; rw [List.takeWhile_cons, if_pos hc]; rfl
      rw [e] at h ⊢
      simpa using bareN_out r (by simpa using h)
    · have e : bareN (c :: r) = 0 := by unfold bareN; rw [List.takeWhile_cons, if_neg hc]; rfl
      rw [e]
      simpa using hc
/-- No space stands before a place. -/
def Scan (r : List UInt8) (n : Nat) : Prop := n ≤ r.length ∧ ∀ j, j < n → r.getD j 0 ≠ 32
theorem scan_zero (r : List UInt8) : Scan r 0 := ⟨Nat.zero_le _, fun j h => absurd h (by omega)⟩
theorem scan_step {r : List UInt8} {n : Nat} (h : Scan r n) (hn : n < r.length) (h2 : r.getD n 0 ≠ 32) : Scan r (n + 1) := by
  refine ⟨by omega, fun j hj => ?_⟩
  by_cases e : j = n
  · rw [e]; exact h2
  · exact h.2 j (by omega)
theorem getD_take {r : List UInt8} {n j : Nat} (h : j < n) : (r.take n).getD j 0 = r.getD j 0 := by
  rw [List.getD_eq_getElem?_getD, List.getD_eq_getElem?_getD, List.getElem?_take, if_pos h]
theorem headD_getD (r : List UInt8) : r.headD 0 = r.getD 0 0 := by cases r <;> simp
theorem scan_good {r : List UInt8} {n : Nat} (h : Scan r n) (he : n = r.length ∨ r.getD n 0 = 32) (hb : bareOk (r.take n) = true) : FRead r (r.take n) false n ∧ ¬ badAt r n := by
  unfold bareOk at hb
  have hb' := of_decide_eq_true hb
  have hl : (r.take n).length = n := by rw [List.length_take]; have := h.1; omega
  rw [hl] at hb'
  have hin : ∀ i, i < n → bareB (r.getD i 0) = true := fun i hi => by
    have := bareN_in (r.take n) i (by omega)
    rwa [getD_take hi] at this
  have hN : bareN r = n := takeWhile_at r n h.1 hin (fun hlt => by
    rcases he with e | e
    · omega
    · rw [e]; decide)
  refine ⟨Or.inr ⟨rfl, ?_, hN.symm, rfl⟩, ?_⟩
  · intro e
    have := hin 0 hb'.2
    rw [← headD_getD, e] at this
    exact absurd this (by decide)
  · rintro (e | ⟨e1, e2⟩)
    · omega
    · rcases he with e | e
      · omega
      · exact e2 e
theorem scan_bad {r b : List UInt8} {n : Nat} (h : Scan r n) (he : n = r.length ∨ r.getD n 0 = 32) (hb : bareOk (r.take n) = false) (hq : ReadsQ r b 0) : ∃ s q n, FRead r s q n ∧ badAt r n := by
  by_cases h34 : r.headD 0 = 34
  · exact ⟨b, true, 0, Or.inl ⟨rfl, h34, hq⟩, Or.inl rfl⟩
  · refine ⟨_, false, bareN r, Or.inr ⟨rfl, h34, rfl, rfl⟩, ?_⟩
    unfold badAt
    by_cases h0 : bareN r = 0
    · exact Or.inl h0
    · have hlt : bareN r < n := by
        rcases Nat.lt_or_ge (bareN r) n with h' | h'
        · exact h'
        · have hl : (r.take n).length = n := by rw [List.length_take]; have := h.1; omega
          have hN : bareN (r.take n) = n := takeWhile_at _ n (by omega) (fun i hi => by rw [getD_take hi]; exact bareN_in r i (by omega)) (fun hlt => by omega)
          have hn0 : n ≠ 0 := by
            intro e
            have hle := bareN_le r
            have h1 := bareN_in r 0 (by omega)
            subst e
            rcases he with e | e
            · omega
            · rw [e] at h1
              exact absurd h1 (by decide)
          unfold bareOk at hb
          rw [hN, hl] at hb
          have := of_decide_eq_false hb
          omega
      exact Or.inr ⟨by have := h.1; omega, h.2 _ hlt⟩
theorem reads_quoted {r b : List UInt8} {n : Nat} (h : ReadsQ r b n) (hn : n ≠ 0) : FRead r b true n := by
  rcases h with ⟨r', h1, h2⟩ | ⟨_, _, h3⟩
  · refine Or.inl ⟨rfl, ?_, Or.inl ⟨r', h1, h2⟩⟩
    unfold Begins at h1
    rw [h1]; rfl
  · exact absurd h3 hn
end W
end Go.Proofs.YtbjfpmklmhgbdaaDoor
