/- Contracts of words.bareSize, strings.Clone and words.tooLong, and the fields of a line as plain lists. -/
import Derived.Test.YtbjfpmklmhgbdaaDoorWordsRef2
namespace Go.Proofs.YtbjfpmklmhgbdaaDoor
open Go.RowKit
namespace W
/-- What a bare field may have. -/
def bareB (c : UInt8) : Bool := isP (c.toNat : Int) && ((c.toNat : Int) != 32)
/-- With how many such bytes a string begins. -/
def bareN (l : List UInt8) : Nat := (l.takeWhile bareB).length
theorem bareN_le (l : List UInt8) : bareN l ≤ l.length := by
  unfold bareN
  induction l with
  | nil => simp
  | cons c r ih => simp only [List.takeWhile_cons]; split <;> simp <;> omega
/-- All bytes before place k are such. -/
def Bares (s : ByteArray) (k : Nat) : Prop := ∀ i, i < k → bareB (s.data.toList.getD i 0) = true
theorem bares_step {s : ByteArray} {k : Nat} (h : Bares s k) (hk : bareB (s.data.toList.getD k 0) = true) : Bares s (k + 1) := by
  intro i hi
  by_cases e : i = k
  · rw [e]; exact hk
  · exact h i (by omega)
theorem takeWhile_at : ∀ (l : List UInt8) (k : Nat), k ≤ l.length → (∀ i, i < k → bareB (l.getD i 0) = true) → (k < l.length → bareB (l.getD k 0) = false) → (l.takeWhile bareB).length = k
  | [], k, hk, _, _ => by simp at hk; simp [hk]
  | c :: r, 0, _, _, h2 => by
    have := h2 (by simp)
    simp at this
    simp [this]
  | c :: r, k + 1, hk, h1, h2 => by
    have hc : bareB c = true := by simpa using h1 0 (by omega)
    rw [List.takeWhile_cons, if_pos hc, List.length_cons, takeWhile_at r k (by simpa using hk) (fun i hi => by simpa using h1 (i + 1) (by omega)) (fun hlt => by simpa using h2 (by simpa using hlt))]
theorem bare_end {s : ByteArray} {k : Nat} (hk : k ≤ s.size) (h : Bares s k) (h2 : k < s.size → bareB (s.data.toList.getD k 0) = false) : bareN s.data.toList = k := takeWhile_at _ _ hk h h2
theorem bareB_get (s : ByteArray) (k : Nat) (h : k < s.size) : bareB (s.data.toList.getD k 0) = (isP ((s[k]'h).toNat : Int) && (((s[k]'h).toNat : Int) != 32)) := by
  rw [get_list, List.getD_eq_getElem?_getD, List.getElem?_eq_getElem h]
  rfl
end W
theorem ret_num {a b : Int} (h : b = a) : Ending.returned (.int .i64 a) = .returned (.int .i64 b) := by rw [h]

set_option maxHeartbeats 1000000 in
theorem bareSize_any (s : ByteArray) (w : World) (hs : s.size ≤ maxLen) :
    Calls Tryd.prog 45 #[.string s] w fun e w' => e = .returned (.int .i64 (W.bareN s.data.toList : Nat)) ∧ w = w' := by
  unfold maxLen at hs
  go_enter Tryd.func45, Tryd.ntmps45
  go_wp2_with fail
  go_loop [3] (fun i => ∃ k : Nat, k ≤ s.size ∧ i = .int .i64 k ∧ W.Bares s k) (fun i => s.size - (intOf i).toNat)
  case atStart => exact ⟨0, Nat.zero_le _, rfl, fun i hi => absurd hi (by omega)⟩
  case round =>
    obtain ⟨k, hk, rfl, hb⟩ := hrel
    by_cases hlt : k < s.size
    · have hget := W.bareB_get s k hlt
      by_cases h32 : (((s[k]'hlt).toNat : Int) != 32) = true
      · by_cases hp : W.isP ((s[k]'hlt).toNat : Int) = true
        · rw [hp, h32] at hget
          have Hg := Lib.hid hget
          clear hget
          go_wp2_with (first | (go_at_call 62; refine (isPlain_any _ _).mono ?_; rintro e w' ⟨rfl, rfl⟩))
          go_round
          case rel => exact ⟨k + 1, by omega, by go_num, W.bares_step hb Hg.out⟩
          case measure => simp [intOf]; omega
        · have hp' : W.isP ((s[k]'hlt).toNat : Int) = false := by simpa using hp
          rw [hp'] at hget
          have Hg := Lib.hid hget
          clear hget hp
          go_wp2_with (first | (go_at_call 62; refine (isPlain_any _ _).mono ?_; rintro e w' ⟨rfl, rfl⟩))
          go_ret
          exact ⟨ret_num (by rw [W.bare_end hk hb (fun _ => by rw [Hg.out]; rfl)]), rfl⟩
      · have h32' : (((s[k]'hlt).toNat : Int) != 32) = false := by simpa using h32
        rw [h32', Bool.and_false] at hget
        have Hg := Lib.hid hget
        clear hget h32
        go_wp2_with fail
        go_ret
        exact ⟨ret_num (by rw [W.bare_end hk hb (fun _ => Hg.out)]), rfl⟩
    · go_wp2_with fail
      go_ret
      exact ⟨ret_num (by rw [W.bare_end hk hb (fun h => absurd h hlt)]), rfl⟩

theorem Clone_any (s : ByteArray) (w : World) (hlim : s.size ≤ 281474976710656) :
    Calls Tryd.prog 67 #[.string s] w fun e w' => e = .returned (.string s) ∧ Below w.heap.size w w' := by
  go_enter Tryd.func67, Tryd.ntmps67
  go_wp2_with (first | (go_at_call 90; refine (Tryd.stringslite_Clone _ _ hlim).mono ?_; rintro e w1 ⟨rfl, hb⟩))
  go_ret
  exact ⟨rfl, hb⟩

/-- The cells of fields. -/
def fCells (fs : List (List UInt8 × Bool)) : List Value := fs.flatMap fun f => [.string ⟨f.1.toArray⟩, .bool f.2]
namespace W
/-- Too many fields, or one that is too long. -/
def longF (fs : List (List UInt8 × Bool)) : Bool := fs.any (fun f => decide (2000 < f.1.length)) || decide (64 < fs.length)
end W
end Go.Proofs.YtbjfpmklmhgbdaaDoor
