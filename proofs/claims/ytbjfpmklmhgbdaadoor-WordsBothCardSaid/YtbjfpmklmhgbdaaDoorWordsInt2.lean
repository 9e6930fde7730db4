/- The contract of the reference's Int: what words.Int returns. -/
import Derived.Test.YtbjfpmklmhgbdaaDoorWordsInt
namespace Go.Proofs.YtbjfpmklmhgbdaaDoor
open Go.RowKit
namespace W
/-- The digits before place k. -/
def pre (l : List UInt8) (k : Nat) : List UInt8 := (body l).take (k - (l.length - (body l).length))
theorem pre_zero (l : List UInt8) : pre l 0 = [] := by simp [pre]
theorem body_len (l : List UInt8) : (body l).length ≤ l.length := by
  unfold body; split <;> simp
theorem pre_full (l : List UInt8) : pre l l.length = body l := by
  unfold pre
  have := body_len l
  exact List.take_of_length_le (by omega)
theorem pre_step {l : List UInt8} {k : Nat} (hk : k < l.length) (hd : ∀ c ∈ body l, dB c) :
    (l[k] = 45 → pre l (k + 1) = pre l k) ∧ (l[k] ≠ 45 → dB l[k] ∧ pre l (k + 1) = pre l k ++ [l[k]]) := by
  have h45 : ¬ dB 45 := by unfold dB; decide
  match l, hk, hd with
  | x :: r, hk, hd =>
    by_cases hx : x = 45
    · subst hx
      have hb : body ((45 : UInt8) :: r) = r := rfl
      rw [hb] at hd
      unfold pre
      rw [hb]
      have e1 : (((45 : UInt8) :: r).length - r.length) = 1 := by simp
      rw [e1]
      cases k with
      | zero => exact ⟨fun _ => rfl, fun h => absurd rfl h⟩
      | succ j =>
        have hj : j < r.length := by simpa using hk
        have hdj := hd _ (List.getElem_mem hj)
        simp only [List.getElem_cons_succ, Nat.add_sub_cancel]
        refine ⟨fun e => absurd (e ▸ hdj) h45, fun _ => ⟨hdj, ?_⟩⟩
        exact (List.take_append_getElem hj).symm
    · have hb : body (x :: r) = x :: r := by simp [body, hx]
      rw [hb] at hd
      unfold pre
      rw [hb]
      have hdj := hd _ (List.getElem_mem hk)
      simp only [Nat.sub_self, Nat.sub_zero]
      exact ⟨fun e => absurd (e ▸ hdj) h45, fun _ => ⟨hdj, (List.take_append_getElem hk).symm⟩⟩
theorem pre_le (l : List UInt8) (k : Nat) : valL 0 (pre l k) ≤ valL 0 (body l) := by
  unfold pre
  have h := List.take_append_drop (k - (l.length - (body l).length)) (body l)
  have h2 := valL_append ((body l).take (k - (l.length - (body l).length))) ((body l).drop (k - (l.length - (body l).length))) 0
  rw [h] at h2
  rw [h2]
  exact valL_ge _ _
/-- The number so far, at a place of the string, as the reference keeps it. -/
def acc (s : ByteArray) (k : Nat) : Int := -(valL 0 (pre s.data.toList k) : Int)
theorem get_list (s : ByteArray) (k : Nat) (hk : k < s.size) : s[k] = s.data.toList[k]'hk := rfl
theorem acc_zero (s : ByteArray) : acc s 0 = 0 := by unfold acc; rw [pre_zero]; rfl
theorem acc_minus {s : ByteArray} {k : Nat} (hk : k < s.size) (hd : decB s = true) (h : (((s[k]'hk).toNat : Int) == 45) = true) : acc s (k + 1) = acc s k := by
  unfold acc
  rw [(pre_step (l := s.data.toList) (k := k) hk (dec_body hd).2).1 (UInt8.toNat_inj.1 (by have h' := beq_iff_eq.1 h; exact_mod_cast h'))]
theorem acc_digit {s : ByteArray} {k : Nat} (hk : k < s.size) (hd : decB s = true) (h : (((s[k]'hk).toNat : Int) == 45) = false) :
    48 ≤ ((s[k]'hk).toNat : Int) ∧ ((s[k]'hk).toNat : Int) ≤ 57 ∧ acc s (k + 1) = 10 * acc s k - (((s[k]'hk).toNat : Int) - 48) := by
  have hne : s.data.toList[k]'hk ≠ 45 := fun e => by
    have : ((s[k]'hk).toNat : Int) = 45 := by rw [get_list, e]; rfl
    rw [this] at h
    cases h
  obtain ⟨hdk, hp⟩ := (pre_step (l := s.data.toList) (k := k) hk (dec_body hd).2).2 hne
  unfold dB at hdk
  rw [← get_list s k hk] at hdk
  refine ⟨by omega, by omega, ?_⟩
  unfold acc
  rw [hp, valL_snoc, ← get_list s k hk]
  omega
theorem acc_ge (s : ByteArray) (k : Nat) : -(valL 0 (body s.data.toList) : Int) ≤ acc s k ∧ acc s k ≤ 0 := by
  have := pre_le s.data.toList k
  unfold acc
  omega
theorem acc_full (s : ByteArray) : acc s s.size = -(valL 0 (body s.data.toList) : Int) := by
  have : pre s.data.toList s.size = body s.data.toList := pre_full _
  unfold acc
  rw [this]
theorem ok_big {s : ByteArray} (h : 9223372036854775808 < (valL 0 (body s.data.toList) : Int)) (lo hi : Int) : intOk s lo hi = false := by
  unfold intOk in64 ival
  split <;> simp <;> omega
theorem head_45 {s : ByteArray} (hp : 0 < s.size) {m : Bool} (h : (((s[0]'hp).toNat : Int) == 45) = m) : (s.data.toList.headD 0 = 45) ↔ m = true := by
  rw [get_list] at h
  have hh : s.data.toList.headD 0 = s.data.toList[0]'hp := by
    match s.data.toList, (show 0 < s.data.toList.length from hp) with
    | x :: r, _ => simp
  rw [hh, ← h, beq_iff_eq]
  constructor
  · intro e; rw [e]; rfl
  · intro e; exact UInt8.toNat_inj.1 (by exact_mod_cast e)
theorem ival_of {s : ByteArray} (hp : 0 < s.size) {m : Bool} (h : (((s[0]'hp).toNat : Int) == 45) = m) : ival s = if m = true then acc s s.size else -acc s s.size := by
  rw [acc_full]
  unfold ival
  by_cases hm : m = true
  · rw [if_pos ((head_45 hp h).2 hm), if_pos hm]
  · rw [if_neg (fun e => hm ((head_45 hp h).1 e)), if_neg hm]
    omega
theorem ok_iff {s : ByteArray} {a lo hi : Int} (h : ival s = a) (h1 : -9223372036854775808 ≤ a) (h2 : a ≤ 9223372036854775807) : intOk s lo hi = (decide (lo ≤ a) && decide (a ≤ hi)) := by
  unfold intOk in64
  rw [h]
  simp [h1, h2]
theorem fin_int {s : ByteArray} {a lo hi : Int} (hd : decB s = true) (hv : ival s = a) (hb : -9223372036854775808 ≤ a) (hb2 : a ≤ 9223372036854775807) (h1 : lo ≤ a) (h2 : a ≤ hi) : intN s lo hi = a ∧ intE s lo hi = 0 := by
  have hok : intOk s lo hi = true := by rw [ok_iff hv hb hb2]; simp [h1, h2]
  rw [(int_ok hd hok).1, (int_ok hd hok).2, hv]
  exact ⟨rfl, rfl⟩
theorem fin_no {s : ByteArray} {a lo hi : Int} (hd : decB s = true) (hv : ival s = a) (hb : -9223372036854775808 ≤ a) (hb2 : a ≤ 9223372036854775807) (h : a < lo ∨ hi < a) : intN s lo hi = 0 ∧ intE s lo hi = 7 :=
  int_range hd (by rw [ok_iff hv hb hb2]; simp; omega)
theorem tdiv_min (d : Int) (hd1 : 0 ≤ d) (hd2 : d ≤ 9) : (-9223372036854775808 + d).tdiv 10 = if d = 9 then -922337203685477579 else -922337203685477580 := by
  have : d = 0 ∨ d = 1 ∨ d = 2 ∨ d = 3 ∨ d = 4 ∨ d = 5 ∨ d = 6 ∨ d = 7 ∨ d = 8 ∨ d = 9 := by omega
  rcases this with rfl | rfl | rfl | rfl | rfl | rfl | rfl | rfl | rfl | rfl <;> decide
theorem step_range {a d v : Int} (hd1 : 48 ≤ d) (hd2 : d ≤ 57) (hv : -v ≤ 10 * a - (d - 48)) (h : a < (-9223372036854775808 + (d - 48)).tdiv 10) : 9223372036854775808 < v := by
  rw [tdiv_min _ (by omega) (by omega)] at h
  split at h <;> omega
theorem step_fits {a d : Int} (hd1 : 48 ≤ d) (hd2 : d ≤ 57) (h : (-9223372036854775808 + (d - 48)).tdiv 10 ≤ a) : -9223372036854775808 ≤ 10 * a - (d - 48) := by
  rw [tdiv_min _ (by omega) (by omega)] at h
  split at h <;> omega
theorem wrap_fits {a d : Int} (h : -9223372036854775808 ≤ 10 * a - (d - 48)) (hd1 : 48 ≤ d) (hd2 : d ≤ 57) (h0 : a ≤ 0) : wrap64 (wrap64 (10 * a) - (d - 48)) = 10 * a - (d - 48) := by
  unfold wrap64
  omega
theorem num_eq {a b : Int} (h : a = b) : Value.int .i64 a = .int .i64 b := by rw [h]
end W

set_option maxHeartbeats 2000000 in
theorem RInt_any (s : ByteArray) (lo hi : Int) (w : World) (hs : s.size ≤ 281474976710656) :
    Calls Tryd.prog 12 #[.string s, .int .i64 lo, .int .i64 hi] w fun e w' => e = .returned (.tuple #[.int .i64 (W.intN s lo hi), .int .i64 (W.intE s lo hi)]) ∧ w = w' := by
  have hs' : s.size ≤ maxLen := by unfold maxLen; omega
  have Hs := Lib.hid hs'
  clear hs'
  by_cases hd : W.decB s = true
  case neg =>
    have hd' : W.decB s = false := by simpa using hd
    clear hd
    go_enter Tryd.func12, Tryd.ntmps12
    go_wp2_with (first | (go_at_call 32; refine (decimal_any _ _ Hs.out).mono ?_; rintro e w' ⟨rfl, rfl⟩))
    go_ret2
    exact ⟨ret_two (W.int_form lo hi hd'), rfl⟩
  case pos =>
  have hp : 0 < s.size := by
    have hb := (W.dec_body hd).1
    have hl := W.body_len s.data.toList
    have : 0 < (W.body s.data.toList).length := List.length_pos_iff.2 hb
    exact Nat.lt_of_lt_of_le this hl
  obtain ⟨m, hm⟩ : ∃ m : Bool, (((s[0]'hp).toNat : Int) == 45) = m := ⟨_, rfl⟩
  have Hm := Lib.hid hm
  go_enter Tryd.func12, Tryd.ntmps12
  go_upto_region 5 with (first | (go_at_call 32; refine (decimal_any _ _ Hs.out).mono ?_; rintro e w' ⟨rfl, rfl⟩))
  clear hm
  go_wp2_with fail
  go_loop [9, 10] (fun n i => ∃ k : Nat, k ≤ s.size ∧ i = .int .i64 k ∧ n = .int .i64 (W.acc s k) ∧ -9223372036854775808 ≤ W.acc s k) (fun _ i => s.size - (intOf i).toNat)
  case atStart => exact ⟨0, by omega, rfl, by rw [W.acc_zero], by rw [W.acc_zero]; omega⟩
  case round =>
    obtain ⟨k, hk, rfl, rfl, hlo⟩ := hrel
    by_cases hlt : k < s.size
    · by_cases hc : (((s[k]'hlt).toNat : Int) == 45) = true
      · have he := W.acc_minus hlt hd hc
        have He := Lib.hid he
        clear he
        go_wp2_with fail
        go_round
        case rel => exact ⟨k + 1, by omega, by go_num, by rw [He.out], by rw [He.out]; exact hlo⟩
        case measure => simp [intOf]; omega
      · have hc' : (((s[k]'hlt).toNat : Int) == 45) = false := by simpa using hc
        obtain ⟨hd1, hd2, he⟩ := W.acc_digit hlt hd hc'
        have He := Lib.hid he
        have hg := W.acc_ge s k
        obtain ⟨hg1, hg2⟩ := hg
        clear he hc
        have hn1 := W.acc_ge s (k + 1)
        rw [He.out] at hn1
        obtain ⟨hn1, _⟩ := hn1
        generalize W.acc s k = a at *
        go_wp2_with fail
        · have hbig := W.ok_big (W.step_range hd1 hd2 hn1 (by assumption)) lo hi
          go_ret2
          exact ⟨ret_two (W.int_range hd hbig), rfl⟩
        · have hge : (-9223372036854775808 + (((s[k]'hlt).toNat : Int) - 48)).tdiv 10 ≤ a := by assumption
          have hst := W.step_fits hd1 hd2 hge
          go_round
          case rel => exact ⟨k + 1, by omega, by go_num, by rw [He.out]; exact W.num_eq (W.wrap_fits hst hd1 hd2 hg2), by rw [He.out]; exact hst⟩
          case measure => simp [intOf]; omega
    · obtain ⟨a, ha⟩ : ∃ a, W.acc s k = a := ⟨_, rfl⟩
      rw [ha] at hlo ⊢
      have hka : W.acc s s.size = a := by rw [← ha, show k = s.size from by omega]
      have hv := W.ival_of hp Hm.out
      rw [hka] at hv
      have ha0 := (W.acc_ge s k).2
      rw [ha] at ha0
      have Hv := Lib.hid hv
      clear hv hka ha
      cases m
      · by_cases hmin : -9223372036854775807 ≤ a
        · have hv' : W.ival s = -a := by rw [Hv.out]; rfl
          have Hv' := Lib.hid hv'
          clear hv'
          by_cases h1 : lo ≤ -a <;> by_cases h2 : -a ≤ hi
          all_goals
            go_wp2_with fail
            go_ret2
          all_goals
            first
              | exact ⟨ret_two (W.fin_int hd Hv'.out (by omega) (by omega) (by omega) (by omega)), rfl⟩
              | exact ⟨ret_two (W.fin_no hd Hv'.out (by omega) (by omega) (by omega)), rfl⟩
        · have hbig : W.intOk s lo hi = false := by
            have := Hv.out
            unfold W.intOk W.in64
            rw [this]
            simp
            omega
          have Hb := Lib.hid hbig
          clear hbig
          go_wp2_with fail
          go_ret2
          exact ⟨ret_two (W.int_range hd Hb.out), rfl⟩
      · have hv' : W.ival s = a := by rw [Hv.out]; rfl
        have Hv' := Lib.hid hv'
        clear hv'
        by_cases h1 : lo ≤ a <;> by_cases h2 : a ≤ hi
        all_goals
          go_wp2_with fail
          go_ret2
        all_goals
          first
            | exact ⟨ret_two (W.fin_int hd Hv'.out (by omega) (by omega) (by omega) (by omega)), rfl⟩
            | exact ⟨ret_two (W.fin_no hd Hv'.out (by omega) (by omega) (by omega)), rfl⟩

end Go.Proofs.YtbjfpmklmhgbdaaDoor
