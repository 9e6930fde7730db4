/- Contracts of package words and of its reference: decimal forms. What each call returns; nothing is written. -/
import Derived.Test.YtbjfpmklmhgbdaaDoorWords1
import Derived.Deep.DeepCutAuto
namespace Go.Proofs.YtbjfpmklmhgbdaaDoor
open Go.RowKit

namespace W
/-- All bytes before place k are digits. -/
def Digs (s : ByteArray) (k : Nat) : Prop := ∀ i, i < k → isD (at' s i) = true
theorem digs_zero (s : ByteArray) : Digs s 0 := fun i h => absurd h (by omega)
theorem digs_step {s : ByteArray} {k : Nat} (h : Digs s k) (hk : isD (at' s k) = true) : Digs s (k + 1) := by
  intro i h1
  by_cases e : i = k
  · rw [e]; exact hk
  · exact h i (by omega)
/-- The decimal form of an integer of any size that is not negative. -/
def natP (s : ByteArray) : Prop := (s.size = 1 ∨ 1 ≤ s.size ∧ at' s 0 ≠ 48) ∧ ∀ i, i < s.size → isD (at' s i) = true
instance (s : ByteArray) : Decidable (natP s) := by unfold natP; infer_instance
def natB (s : ByteArray) : Bool := decide (natP s)
theorem natB_no {s : ByteArray} {k : Nat} (hk : k < s.size) (h : isD (at' s k) = false) : natB s = false := by
  apply decide_eq_false
  rintro ⟨_, hall⟩
  rw [hall k hk] at h
  cases h
theorem natB_empty {s : ByteArray} (h : s.size = 0) : natB s = false := by
  apply decide_eq_false
  rintro ⟨h1, _⟩
  omega
theorem size_of_toList {s : ByteArray} {l : List UInt8} (h : s.toList = l) : s.size = l.length := by
  rw [ByteArray.toList_eq] at h
  rw [← h]
  rfl
theorem at_of_toList {s : ByteArray} {l : List UInt8} (h : s.toList = l) (i : Nat) : at' s i = ((l.getD i 0).toNat : Int) := by
  rw [ByteArray.toList_eq] at h
  unfold at'
  rw [h]
theorem natB_one {s : ByteArray} (h : s.toList = [48]) : natB s = true := by
  have h1 := size_of_toList h
  simp at h1
  apply decide_eq_true
  refine ⟨Or.inl h1, fun i hi => ?_⟩
  rw [at_of_toList h, show i = 0 from by omega]
  rfl
theorem natB_nil {s : ByteArray} (h : s.toList = []) : natB s = false := natB_empty (size_of_toList h)
theorem natB_eq {s : ByteArray} (hp : 0 < s.size) (h1 : ¬ s.toList = [48]) (h2 : ¬ s.toList = []) (hd : Digs s s.size) :
    natB s = (s.toList == [48] || !s.toList.isEmpty && (((s[0]'hp).toNat : Nat) : Int) != 48) := by
  rw [at_get]
  have e1 : (s.toList == [48]) = false := by simpa using h1
  have e2 : s.toList.isEmpty = false := by simpa using h2
  rw [e1, e2]
  simp only [Bool.false_or, Bool.not_false, Bool.true_and]
  rw [Bool.eq_iff_iff]
  unfold natB
  rw [decide_eq_true_iff, bne_iff_ne]
  constructor
  · rintro ⟨h | h, _⟩
    · intro e
      apply h1
      rw [ByteArray.toList_eq]
      have hl : s.data.toList.length = 1 := h
      match hh : s.data.toList, hl with
      | [x], _ =>
        unfold at' at e
        rw [hh] at e
        simp at e
        rw [show x = 48 from UInt8.toNat_inj.1 (by simpa using (by exact_mod_cast e : x.toNat = 48))]
    · exact h.2
  · exact fun h => ⟨Or.inr ⟨hp, h⟩, hd⟩
end W

set_option maxHeartbeats 1000000 in
theorem isNatural_any (s : ByteArray) (w : World) (hs : s.size ≤ maxLen) :
    Calls Tryd.prog 55 #[.string s] w fun e w' => e = .returned (.bool (W.natB s)) ∧ w = w' := by
  unfold maxLen at hs
  go_enter Tryd.func55, Tryd.ntmps55
  go_wp2_with fail
  go_loop [3] (fun i => ∃ k : Nat, k ≤ s.size ∧ i = .int .i64 k ∧ W.Digs s k) (fun i => s.size - (intOf i).toNat)
  case atStart => exact ⟨0, by omega, rfl, W.digs_zero s⟩
  case round =>
    obtain ⟨k, hk, rfl, hdig⟩ := hrel
    by_cases hlt : k < s.size
    · by_cases hc2 : W.isD ((s[k]'hlt).toNat : Int) = true
      · have Hn := Lib.hid hc2
        go_wp2_with (first | (go_at_call 34; refine (isDigit_any _ _).mono ?_; rintro e w' ⟨rfl, rfl⟩))
        go_round
        case rel => exact ⟨k + 1, by omega, by go_num, W.digs_step hdig (by have := Hn.out; rwa [W.at_get] at this)⟩
        case measure => simp [intOf]; omega
      · have Hn := Lib.hid hc2
        go_wp2_with (first | (go_at_call 34; refine (isDigit_any _ _).mono ?_; rintro e w' ⟨rfl, rfl⟩))
        go_ret
        exact ⟨ret_bool (W.natB_no hlt (by have := Hn.out; rw [W.at_get] at this; simpa using this)), rfl⟩
    · have hd : W.Digs s s.size := by rwa [show k = s.size from by omega] at hdig
      by_cases h1 : 0 < s.size
      · go_wp2_with fail
        all_goals
          go_ret
          first
            | exact ⟨ret_bool (W.natB_one (by assumption)), rfl⟩
            | exact ⟨ret_bool (W.natB_nil (by assumption)), rfl⟩
            | exact ⟨ret_bool (W.natB_eq h1 (by assumption) (by assumption) hd), rfl⟩
      · have hnil : s.toList.isEmpty = true := by
          rw [ByteArray.toList_eq]
          have : s.data.toList.length = 0 := by have := Nat.eq_zero_of_not_pos h1; exact this
          exact List.isEmpty_iff.2 (List.length_eq_zero_iff.1 this)
        have hn1 : (s.toList == [48]) = false := by
          have hl := List.isEmpty_iff.1 hnil
          rw [hl]; rfl
        go_wp2_with fail
        go_ret
        exact ⟨ret_bool (W.natB_empty (by omega)), rfl⟩

namespace W
/-- Whether a string begins with a sign that the reference takes off. -/
def stripB (s : ByteArray) : Bool := decide (1 < s.size ∧ at' s 0 = 45 ∧ at' s 1 ≠ 48)
/-- What is left of a decimal form without its sign. -/
def strip (s : ByteArray) : ByteArray := if stripB s = true then s.extract 1 s.size else s
/-- The decimal form of an integer of any size. -/
def decB (s : ByteArray) : Bool := natB (strip s)
theorem size_ext (s : ByteArray) : (s.extract 1 s.size).size = s.size - 1 := by simp [ByteArray.size_extract]
theorem strip_size (s : ByteArray) : (strip s).size ≤ s.size := by
  unfold strip
  split
  · rw [size_ext]; omega
  · exact Nat.le_refl _
theorem at_ext (s : ByteArray) (i : Nat) (h : i + 1 < s.size) : at' (s.extract 1 s.size) i = at' s (i + 1) := by
  rw [← at_get _ i (by rw [size_ext]; omega), ← at_get _ (i + 1) h]
  simp [ByteArray.getElem_extract, Nat.add_comm]
end W

/-- The reference's loop, from a string without its sign on. -/
theorem natB_alt {s : ByteArray} (h0 : 1 ≤ s.size) (h1 : ¬ (1 < s.size ∧ W.at' s 0 = 48)) (hd : W.Digs s s.size) : W.natB s = true := by
  apply decide_eq_true
  refine ⟨?_, hd⟩
  by_cases e : s.size = 1
  · exact Or.inl e
  · exact Or.inr ⟨h0, fun e2 => h1 ⟨by omega, e2⟩⟩
theorem natB_zero {s : ByteArray} (h1 : 1 < s.size) (h2 : W.at' s 0 = 48) : W.natB s = false := by
  apply decide_eq_false
  rintro ⟨h | h, _⟩
  · omega
  · exact h.2 h2

set_option maxHeartbeats 2000000 in
theorem decimal_any (s : ByteArray) (w : World) (hs : s.size ≤ maxLen) :
    Calls Tryd.prog 32 #[.string s] w fun e w' => e = .returned (.bool (W.decB s)) ∧ w = w' := by
  unfold maxLen at hs
  suffices H : ∀ t : ByteArray, t.size ≤ 2 ^ 63 - 1 → W.strip s = t → Calls Tryd.prog 32 #[.string s] w fun e w' => e = .returned (.bool (W.natB t)) ∧ w = w' by
    exact H _ (Nat.le_trans (W.strip_size s) hs) rfl
  intro t ht hst
  go_enter Tryd.func32, Tryd.ntmps32
  go_upto_region 1 with (fail)
  go_cut [16] (fun v wr => v = .bool (W.stripB s) ∧ w = wr)
  case first =>
    by_cases h1 : 1 < s.size
    · have hp : 0 < s.size := by omega
      by_cases h2 : (((s[0]'hp).toNat : Int) == 45) = true
      · have h2' : W.at' s 0 = 45 := by rw [← W.at_get s 0 hp]; simpa using h2
        have H2 := Lib.hid h2'
        clear h2'
        go_wp2_with fail
        go_meet
        case rel => exact ⟨by unfold W.stripB; rw [← W.at_get s 1 h1, H2.out]; simp [h1, bne]; rfl, rfl⟩
      · have h2' : ¬ W.at' s 0 = 45 := by rw [← W.at_get s 0 hp]; simpa using h2
        have H2 := Lib.hid h2'
        clear h2'
        go_wp2_with fail
        go_meet
        case rel => exact ⟨by unfold W.stripB; simp [H2.out], rfl⟩
    · go_wp2_with fail
      go_meet
      case rel => exact ⟨by unfold W.stripB; simp [h1], rfl⟩
  case rest =>
    obtain ⟨hv, rfl⟩ := hcut
    obtain ⟨b, hb⟩ : ∃ b, W.stripB s = b := ⟨_, rfl⟩
    rw [hb] at hv
    subst hv
    have Hb := Lib.hid hb
    clear hb
    go_upto_if 16 with (fail)
    go_cut [0] (fun v wr => v = .string t ∧ w = wr)
    case first =>
      cases b
      · have ht' : t = s := by rw [← hst]; exact if_neg (by rw [Hb.out]; simp)
        have Ht := Lib.hid ht'
        clear ht' hst
        go_wp2_with fail
        go_meet
        case rel => exact ⟨by rw [Ht.out], rfl⟩
      · have ht' : t = s.extract 1 s.size := by rw [← hst]; exact if_pos Hb.out
        have Ht := Lib.hid ht'
        have hsz : 1 < s.size := (of_decide_eq_true Hb.out).1
        clear ht' hst
        go_wp2_with fail
        go_meet
        case rel => exact ⟨by rw [Ht.out], rfl⟩
    case rest =>
      obtain ⟨rfl, rfl⟩ := hcut
      clear hst
      by_cases h0 : 1 ≤ t.size
      case neg =>
        have h0' : ((t.size : Int) == 0) = true := by rw [beq_iff_eq]; omega
        go_wp2_with fail
        go_ret
        exact ⟨ret_bool (W.natB_empty (by omega)), rfl⟩
      case pos =>
      have hp : 0 < t.size := h0
      have h0' : ((t.size : Int) == 0) = false := by rw [beq_eq_false_iff_ne]; omega
      by_cases h1 : 1 < t.size ∧ W.at' t 0 = 48
      case pos =>
        obtain ⟨h1, h2⟩ := h1
        have h2' : (((t[0]'hp).toNat : Int) == 48) = true := by rw [W.at_get, h2]; rfl
        have H2 := Lib.hid h2
        clear h2
        go_wp2_with fail
        go_ret
        exact ⟨ret_bool (natB_zero h1 H2.out), rfl⟩
      case neg =>
      have hz : 1 < t.size → (((t[0]'hp).toNat : Int) == 48) = false := fun h3 => by
        rw [W.at_get, beq_eq_false_iff_ne]; exact fun h4 => h1 ⟨h3, h4⟩
      have H1 := Lib.hid h1
      clear h1
      have loop : True := trivial
      by_cases h2 : 1 < t.size
      all_goals
        try have hz' := hz h2
        clear hz
        go_wp2_with fail
        go_loop [3] (fun i => ∃ k : Nat, k ≤ t.size ∧ i = .int .i64 k ∧ W.Digs t k) (fun i => t.size - (intOf i).toNat)
        case atStart => exact ⟨0, by omega, rfl, W.digs_zero t⟩
        case round =>
          obtain ⟨k, hk, rfl, hdig⟩ := hrel
          by_cases hlt : k < t.size
          · by_cases hc2 : W.isD ((t[k]'hlt).toNat : Int) = true
            · have Hn := Lib.hid hc2
              go_wp2_with (first | (go_at_call 36; refine (digit_any _ _).mono ?_; rintro e w' ⟨rfl, rfl⟩))
              go_round
              case rel => exact ⟨k + 1, by omega, by go_num, W.digs_step hdig (by have := Hn.out; rwa [W.at_get] at this)⟩
              case measure => simp [intOf]; omega
            · have Hn := Lib.hid hc2
              go_wp2_with (first | (go_at_call 36; refine (digit_any _ _).mono ?_; rintro e w' ⟨rfl, rfl⟩))
              go_ret
              exact ⟨ret_bool (W.natB_no hlt (by have := Hn.out; rw [W.at_get] at this; simpa using this)), rfl⟩
          · have hd : W.Digs t t.size := by rwa [show k = t.size from by omega] at hdig
            go_wp2_with fail
            go_ret
            exact ⟨ret_bool (natB_alt h0 H1.out hd), rfl⟩

end Go.Proofs.YtbjfpmklmhgbdaaDoor
