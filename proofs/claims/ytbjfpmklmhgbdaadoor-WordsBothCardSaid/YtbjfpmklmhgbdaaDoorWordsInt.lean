/- Contracts of words.Int and of its reference: both return the same, at every string. -/
import Derived.Test.YtbjfpmklmhgbdaaDoorWordsNum
import Derived.Test.YtbjfpmklmhgbdaaDoorShelf
namespace Go.Proofs.YtbjfpmklmhgbdaaDoor
open Go.RowKit
namespace W
def dBb (c : UInt8) : Bool := isD (c.toNat : Int)
theorem dBb_iff {c : UInt8} : dBb c = true ↔ dB c := by
  unfold dBb isD dB
  simp
  omega
def natL : List UInt8 → Bool
  | [] => false
  | c :: r => dBb c && (r.isEmpty || c != 48) && r.all dBb
theorem natB_list (s : ByteArray) : natB s = natL s.data.toList := by
  rw [Bool.eq_iff_iff]
  unfold natB
  rw [decide_eq_true_iff]
  unfold natP at'
  have hsz : s.size = s.data.toList.length := rfl
  rw [hsz]
  cases s.data.toList with
  | nil => simp [natL]
  | cons c r =>
    simp only [natL, Bool.and_eq_true, Bool.or_eq_true, List.all_eq_true]
    have key : (∀ i, i < (c :: r).length → isD (((c :: r).getD i 0).toNat : Int) = true) ↔ (dBb c = true ∧ ∀ x ∈ r, dBb x = true) := by
      constructor
      · intro h
        refine ⟨h 0 (by simp), fun x hx => ?_⟩
        obtain ⟨i, hi, rfl⟩ := List.getElem_of_mem hx
        have := h (i + 1) (by simp; omega)
        rw [List.getD_eq_getElem?_getD, List.getElem?_cons_succ, List.getElem?_eq_getElem hi] at this
        exact this
      · rintro ⟨h1, h2⟩ i hi
        cases i with
        | zero => exact h1
        | succ k =>
          have hk : k < r.length := by simpa using hi
          rw [List.getD_eq_getElem?_getD, List.getElem?_cons_succ, List.getElem?_eq_getElem hk]
          exact h2 _ (List.getElem_mem hk)
    rw [key]
    have e0 : (((c :: r).getD 0 0).toNat : Int) ≠ 48 ↔ (c != 48) = true := by
      simp only [List.getD_cons_zero, bne_iff_ne, ne_eq]
      constructor
      · intro h e; exact h (by rw [e]; rfl)
      · intro h e; exact h (UInt8.toNat_inj.1 (by exact_mod_cast e))
    rw [e0]
    have e1 : (c :: r).length = 1 ↔ r.isEmpty = true := by simp [List.length_eq_zero_iff]
    rw [e1]
    constructor
    · rintro ⟨h | ⟨_, h⟩, h2, h3⟩
      · exact ⟨⟨h2, Or.inl h⟩, h3⟩
      · exact ⟨⟨h2, Or.inr h⟩, h3⟩
    · rintro ⟨⟨h2, h | h⟩, h3⟩
      · exact ⟨Or.inl h, h2, h3⟩
      · exact ⟨Or.inr ⟨by simp, h⟩, h2, h3⟩
def stripL : List UInt8 → List UInt8
  | x :: c :: r => if x = 45 ∧ c ≠ 48 then c :: r else x :: c :: r
  | l => l
theorem strip_list (s : ByteArray) : (strip s).data.toList = stripL s.data.toList := by
  have hsz : s.size = s.data.toList.length := rfl
  have inj : ∀ (c d : UInt8), ((c.toNat : Nat) : Int) = ((d.toNat : Nat) : Int) ↔ c = d := fun c d =>
    ⟨fun e => UInt8.toNat_inj.1 (by exact_mod_cast e), fun e => by rw [e]⟩
  unfold strip
  by_cases h : stripB s = true
  · rw [if_pos h]
    have h' := of_decide_eq_true h
    unfold at' at h'
    rw [hsz] at h'
    have : (s.extract 1 s.size).data.toList = s.data.toList.drop 1 := by
      rw [Lib.extract_data]
      simp
      exact List.take_of_length_le (by rw [List.length_tail, ← hsz]; exact Nat.le_refl _)
    rw [this]
    match hl : s.data.toList, h' with
    | [], h' => simp at h'
    | [x], h' => simp at h'
    | x :: c :: r, h' =>
      have h1 : x = 45 := (inj x 45).1 h'.2.1
      have h2 : c ≠ 48 := fun e => h'.2.2 ((inj c 48).2 e)
      simp [stripL, h1, h2]
  · rw [if_neg h]
    have h' := of_decide_eq_false (by simpa using h : stripB s = false)
    unfold at' at h'
    rw [hsz] at h'
    match hl : s.data.toList, h' with
    | [], h' => rfl
    | [x], h' => rfl
    | x :: c :: r, h' =>
      simp only [stripL]
      rw [if_neg]
      rintro ⟨h1, h2⟩
      exact h' ⟨by simp, (inj x 45).2 h1, fun e => h2 ((inj c 48).1 e)⟩
theorem decB_list (s : ByteArray) : decB s = natL (stripL s.data.toList) := by
  unfold decB
  rw [natB_list, strip_list]
theorem natL_minus (r : List UInt8) : natL (45 :: r) = false := by
  have : dBb 45 = false := by decide
  simp [natL, this]
theorem dec_trim (s : ByteArray) : decB s = (!(s.toList == [45, 48]) && natB ⟨(Lib.trimPrefix s.data.toList [45]).toArray⟩) := by
  rw [decB_list, natB_list, ByteArray.toList_eq]
  show natL (stripL s.data.toList) = (!(s.data.toList == [45, 48]) && natL (Lib.trimPrefix s.data.toList [45]))
  generalize s.data.toList = l
  match l with
  | [] => rfl
  | x :: r =>
    by_cases hx : x = 45
    · subst hx
      have ht : Lib.trimPrefix (45 :: r) [45] = r := by simp [Lib.trimPrefix, Lib.hasPrefix]
      rw [ht]
      match r with
      | [] => rfl
      | c :: r' =>
        by_cases hc : c = 48
        · subst hc
          have : stripL (45 :: 48 :: r') = 45 :: 48 :: r' := by simp [stripL]
          rw [this, natL_minus]
          cases r' <;> simp [natL]
        · have : stripL (45 :: c :: r') = c :: r' := by simp [stripL, hc]
          rw [this]
          simp [hc]
    · have ht : Lib.trimPrefix (x :: r) [45] = x :: r := by
        simp [Lib.trimPrefix, Lib.hasPrefix]
        exact fun e => hx e.symm
      have hs : stripL (x :: r) = x :: r := by cases r <;> simp [stripL, hx]
      rw [ht, hs]
      simp [hx]
theorem natL_digits {l : List UInt8} (h : natL l = true) : l ≠ [] ∧ ∀ c ∈ l, dB c := by
  match l with
  | [] => simp [natL] at h
  | c :: r =>
    simp only [natL, Bool.and_eq_true, List.all_eq_true] at h
    refine ⟨by simp, fun x hx => ?_⟩
    rcases List.mem_cons.1 hx with rfl | hx
    · exact dBb_iff.1 h.1.1
    · exact dBb_iff.1 (h.2 x hx)
theorem dec_body {s : ByteArray} (h : decB s = true) : body s.data.toList ≠ [] ∧ ∀ c ∈ body s.data.toList, dB c := by
  rw [decB_list] at h
  revert h
  generalize s.data.toList = l
  intro h
  have plain : natL l = true → body l ≠ [] ∧ ∀ c ∈ body l, dB c := fun h => by
    have hd := natL_digits h
    have : body l = l := by
      unfold body
      rw [if_neg]
      intro e
      match l, hd, e with
      | c :: r, hd, e =>
        have h1 := hd.2 c (by simp)
        simp at e
        rw [e] at h1
        exact absurd h1 (by unfold dB; decide)
    rw [this]
    exact hd
  match l, h with
  | [], h => exact plain h
  | [x], h => exact plain h
  | x :: c :: r, h =>
    by_cases hc : x = 45 ∧ c ≠ 48
    · have e1 : stripL (x :: c :: r) = c :: r := by simp [stripL, hc.1, hc.2]
      rw [e1] at h
      have e2 : body (x :: c :: r) = c :: r := by simp [body, hc.1]
      rw [e2]
      exact natL_digits h
    · have e1 : stripL (x :: c :: r) = x :: c :: r := if_neg hc
      rw [e1] at h
      exact plain h
/-- What Int returns: the number, and the error. -/
def intOk (s : ByteArray) (lo hi : Int) : Bool := in64 (ival s) && decide (lo ≤ ival s) && decide (ival s ≤ hi)
def intN (s : ByteArray) (lo hi : Int) : Int := if decB s = true ∧ intOk s lo hi = true then ival s else 0
def intE (s : ByteArray) (lo hi : Int) : Int := if decB s = true then (if intOk s lo hi = true then 0 else 7) else 6
theorem int_form {s : ByteArray} (lo hi : Int) (h : decB s = false) : intN s lo hi = 0 ∧ intE s lo hi = 6 := by simp [intN, intE, h]
theorem int_range {s : ByteArray} {lo hi : Int} (h : decB s = true) (h2 : intOk s lo hi = false) : intN s lo hi = 0 ∧ intE s lo hi = 7 := by simp [intN, intE, h, h2]
theorem int_ok {s : ByteArray} {lo hi : Int} (h : decB s = true) (h2 : intOk s lo hi = true) : intN s lo hi = ival s ∧ intE s lo hi = 0 := by simp [intN, intE, h, h2]
end W
theorem ret_two {a b c d : Int} {k : IntKind} (h : c = a ∧ d = b) : Ending.returned (.tuple #[.int k a, .int .i64 b]) = .returned (.tuple #[.int k c, .int .i64 d]) := by rw [h.1, h.2]

set_option maxHeartbeats 400000 in
theorem isDecimal_any (s : ByteArray) (w : World) (hs : s.size ≤ maxLen) :
    Calls Tryd.prog 30 #[.string s] w fun e w' => e = .returned (.bool (W.decB s)) ∧ w = w' := by
  have hs' : (⟨(Lib.trimPrefix s.data.toList [45]).toArray⟩ : ByteArray).size ≤ maxLen := by
    refine Nat.le_trans ?_ hs
    show (Lib.trimPrefix s.data.toList [45]).length ≤ s.data.toList.length
    unfold Lib.trimPrefix
    split
    · simp
    · exact Nat.le_refl _
  have hd := W.dec_trim s
  by_cases h1 : (s.toList == [45, 48]) = true
  · rw [h1] at hd
    have Hd := Lib.hid hd
    clear hd
    go_enter Tryd.func30, Tryd.ntmps30
    go_wp2_with fail
    go_ret
    exact ⟨ret_bool (by rw [Hd.out]; rfl), rfl⟩
  · have h1' : (s.toList == [45, 48]) = false := by simpa using h1
    rw [h1'] at hd
    have Hd := Lib.hid hd
    have Hs := Lib.hid hs'
    clear hd h1 hs'
    go_enter Tryd.func30, Tryd.ntmps30
    go_wp2_with (first | (go_at_call 56; refine (Tryd.strings_TrimPrefix _ _ _).mono ?_; rintro e w' ⟨rfl, rfl⟩) | (go_at_call 55; refine (isNatural_any _ _ Hs.out).mono ?_; rintro e w' ⟨rfl, rfl⟩))
    go_ret
    exact ⟨ret_bool (by rw [Hd.out]; rfl), rfl⟩

set_option maxHeartbeats 400000 in
theorem Int_any (s : ByteArray) (lo hi : Int) (w : World) (hs : s.size ≤ 281474976710656) (tp : TypeId) (p : Value) (hvar : w.var? Tryd.prog "strconv.ErrRange" = some #[.iface tp p]) :
    Calls Tryd.prog 11 #[.string s, .int .i64 lo, .int .i64 hi] w fun e w' => e = .returned (.tuple #[.int .i64 (W.intN s lo hi), .int .i64 (W.intE s lo hi)]) ∧ Below w.heap.size w w' := by
  have hs' : s.size ≤ maxLen := by unfold maxLen; omega
  have Hs := Lib.hid hs'
  clear hs'
  by_cases hd : W.decB s = true
  case neg =>
    have hd' : W.decB s = false := by simpa using hd
    clear hd
    go_enter Tryd.func11, Tryd.ntmps11
    go_wp2_with (first | (go_at_call 30; refine (isDecimal_any _ _ Hs.out).mono ?_; rintro e w' ⟨rfl, rfl⟩))
    go_ret2
    exact ⟨ret_two (W.int_form lo hi hd'), Below.refl _ _⟩
  case pos =>
  have hb := W.dec_body hd
  have hp := W.parse_body _ hb.1 hb.2
  by_cases h64 : W.in64 (W.ival s) = true
  case neg =>
    have hp' : Lib.parseIntB 64 s.data.toList = .range := by rw [hp]; exact if_neg h64
    have hok : ∀ lo hi, W.intOk s lo hi = false := fun lo hi => by unfold W.intOk; simp at h64; simp [h64]
    have Hp := Lib.hid hp'
    have Hok := Lib.hid hok
    have Hv := Lib.hid hvar
    clear hp hp' hok hb h64 hvar
    go_enter Tryd.func11, Tryd.ntmps11
    go_wp2_with (first | (go_at_call 30; refine (isDecimal_any _ _ Hs.out).mono ?_; rintro e w' ⟨rfl, rfl⟩) | (go_at_call 31; refine (Tryd.strconv_ParseInt_10_at64_range_var _ hs Hp.out tp p _ Hv.out).mono ?_; rintro e w1 ⟨N, rfl, hN1, hN2, hb1⟩; clear hN1 hN2))
    go_ret2
    exact ⟨ret_two (W.int_range hd (Hok.out lo hi)), by assumption⟩
  case pos =>
    have hp' : Lib.parseIntB 64 s.data.toList = .ok (W.ival s) := by rw [hp]; exact if_pos h64
    have Hp := Lib.hid hp'
    have H64 := Lib.hid h64
    clear hp hp' hb h64 hvar
    have hmax : s.size ≤ 9223372036854775806 := by omega
    have hB : ∀ w1 : World, (w1 = w ∨ ∃ t, w1 = Lib.bytesWorld w 5 t) → Below w.heap.size w w1 := by
      rintro w1 (rfl | ⟨t, rfl⟩)
      · exact Below.refl _ _
      · exact Lib.bytesWorld_below _ _ _
    have HB := Lib.hid hB
    clear hB
    obtain ⟨v, hv⟩ : ∃ v, W.ival s = v := ⟨_, rfl⟩
    rw [hv] at Hp H64
    have Hv := Lib.hid hv
    clear hv
    by_cases h1 : lo ≤ v <;> by_cases h2 : v ≤ hi
    all_goals
      go_enter Tryd.func11, Tryd.ntmps11
      go_wp2_with (first | (go_at_call 30; refine (isDecimal_any _ _ Hs.out).mono ?_; rintro e w' ⟨rfl, rfl⟩) | (go_at_call 31; refine (Tryd.strconv_ParseInt_10_at64_ok _ hmax _ Hp.out _).mono ?_; rintro e w1 ⟨rfl, hb1⟩; have hb2 := HB.out _ hb1; clear hb1))
      go_ret2
    all_goals
      first
        | exact ⟨ret_two (by rw [(W.int_ok hd (by unfold W.intOk; rw [Hv.out]; simp [H64.out, h1, h2])).1, (W.int_ok hd (by unfold W.intOk; rw [Hv.out]; simp [H64.out, h1, h2])).2, Hv.out]; exact ⟨rfl, rfl⟩), by assumption⟩
        | exact ⟨ret_two (W.int_range hd (by unfold W.intOk; rw [Hv.out]; simp [h1, h2])), by assumption⟩

end Go.Proofs.YtbjfpmklmhgbdaaDoor
