/- Contracts of what goes over a list of spans in the reference: list, In and Same (of equal lists). -/
import Derived.Test.YtnehllkklmdpfaaDoorTmLists
import Derived.Deep.Quiet
import Derived.Deep.QuietTactic
namespace Go.Proofs.YtnehllkklmdpfaaDoor
open Go.RowKit
open T (SV)
set_option linter.unusedSimpArgs false
set_option maxRecDepth 100000 in
set_option maxHeartbeats 1000000 in
theorem Rlist_any (A : Option Addr) (c m : Nat) (l : List SV) (w : World) (hb : SpIn w w.heap.size A c l) (hm : l.length = m) :
    Calls Tryd.prog 42 #[.slice A m c] w (ErrPost (T.errL l) w) := by
  have hlc := hb.le
  have hcm := hb.cap
  unfold maxLen at hcm
  have Hm := Lib.hid hm
  have HB := Lib.hid hb
  rw [hm] at hlc
  clear hm hb
  go_enter Tryd.func42, Tryd.ntmps42
  go_wp2_with fail
  go_loopw [3] (fun i wr => ∃ k : Nat, k ≤ m ∧ i = .int .i64 k ∧ Below w.heap.size w wr ∧ Hid (T.errL l = T.errL (l.drop k))) (fun i _ => m - (intOf i).toNat)
  case atStart => exact ⟨0, Nat.zero_le _, rfl, Below.refl _ _, Lib.hid rfl⟩
  case round =>
    obtain ⟨k, hk, rfl, hbel, HA⟩ := hrel
    by_cases hlt : k < m
    · have hkf : k < l.length := by rw [Hm.out]; exact hlt
      obtain ⟨ad, rfl, hlb, c0, c1⟩ := (HB.out.below hbel).at_ hkf
      obtain ⟨x, y, hs⟩ : ∃ x y, l[k]'hkf = (x, y) := ⟨_, _, rfl⟩
      rw [hs] at c0 c1
      rw [addr_one] at c1
      have HE := Lib.hid (T.errL_at hkf)
      rw [hs] at HE
      clear hs
      have HC := Lib.hid (fun w => RCheck_any x y w)
      have HSz := Lib.hid hbel.size
      by_cases he : T.checkE x y = 0
      · rw [he] at HC
        have HE2 : Hid (T.errL l = T.errL (l.drop (k + 1))) := Lib.hid (by rw [HA.out, HE.out]; exact if_pos he)
        clear he
        go_wp2_with fail
        refine (HC.out _).mono ?_
        rintro e w1 ⟨rfl, hb1⟩
        have hb2 : Below w.heap.size w w1 := bt hbel HSz.out hb1
        go_wp2_with fail
        go_roundw
        case rel => exact ⟨k + 1, by omega, by go_num, hb2, HE2⟩
        case measure => simp [intOf]; omega
      · have HE2 : Hid (T.errL l = T.checkE x y) := Lib.hid (by rw [HA.out, HE.out]; exact if_neg he)
        obtain ⟨E, hE⟩ : ∃ E, T.checkE x y = E := ⟨_, rfl⟩
        rw [hE] at HC he HE2
        clear hE HE
        go_wp2_with fail
        refine (HC.out _).mono ?_
        rintro e w1 ⟨rfl, hb1⟩
        have hb2 : Below w.heap.size w w1 := bt hbel HSz.out hb1
        go_wp2_with fail
        go_ret
        exact err_post HE2.out hb2
    · have HO := Lib.hid (HA.out.trans (T.errL_end (by rw [Hm.out]; exact hlt)))
      go_wp2_with fail
      go_ret
      exact err_post HO.out hbel
theorem below_dn {B : Nat} {a w : World} (h : Below B a w) (n : Nat) : Below B a (w.drewN n) := h.trans ⟨rfl, rfl, rfl, Nat.le_refl _, fun _ _ => rfl⟩
theorem T.inB_at {l : List SV} {k : Nat} (h : k < l.length) (t : Int) : T.inB (l.drop k) t = (decide ((l[k]).1 ≤ t ∧ t < (l[k]).2) || T.inB (l.drop (k + 1)) t) := by
  rw [List.drop_eq_getElem_cons h]; rfl
theorem T.inB_end {l : List SV} {k : Nat} (h : ¬ k < l.length) (t : Int) : T.inB (l.drop k) t = false := by
  rw [List.drop_eq_nil_of_le (by omega)]; rfl
def BoolPost (b : Bool) (w : World) (e : Ending) (w' : World) : Prop := e = .returned (.bool b) ∧ w = w'
theorem bool_post {b b' : Bool} {w : World} (h : b = b') : BoolPost b w (.returned (.bool b')) w := ⟨by rw [h], rfl⟩
set_option maxRecDepth 100000 in
set_option maxHeartbeats 1000000 in
theorem RIn_any (A : Option Addr) (c m : Nat) (l : List SV) (t : Int) (w : World) (hb : SpIn w w.heap.size A c l) (hm : l.length = m) :
    Calls Tryd.prog 35 #[.slice A m c, .int .i64 t] w (BoolPost (T.inB l t) w) := by
  have hlc := hb.le
  have hcm := hb.cap
  unfold maxLen at hcm
  have Hm := Lib.hid hm
  have HB := Lib.hid hb
  rw [hm] at hlc
  clear hm hb
  go_enter Tryd.func35, Tryd.ntmps35
  go_wp2_with fail
  go_loop [5] (fun i => ∃ k : Nat, k ≤ m ∧ i = .int .i64 k ∧ Hid (T.inB l t = T.inB (l.drop k) t)) (fun i => m - (intOf i).toNat)
  case atStart => exact ⟨0, Nat.zero_le _, rfl, Lib.hid rfl⟩
  case round =>
    obtain ⟨k, hk, rfl, HA⟩ := hrel
    by_cases hlt : k < m
    · have hkf : k < l.length := by rw [Hm.out]; exact hlt
      obtain ⟨ad, rfl, hlb, c0, c1⟩ := HB.out.at_ hkf
      obtain ⟨x, y, hs⟩ : ∃ x y, l[k]'hkf = (x, y) := ⟨_, _, rfl⟩
      rw [hs] at c0 c1
      rw [addr_one] at c1
      have HE := Lib.hid (T.inB_at hkf t)
      rw [hs] at HE
      clear hs
      by_cases h1 : x ≤ t
      · by_cases h2 : t < y
        · have HO : Hid (T.inB l t = true) := Lib.hid (by rw [HA.out, HE.out, decide_eq_true (⟨h1, h2⟩ : x ≤ t ∧ t < y)]; rfl)
          go_wp2_with fail
          go_ret
          exact bool_post HO.out
        · have HE2 : Hid (T.inB l t = T.inB (l.drop (k + 1)) t) := Lib.hid (by rw [HA.out, HE.out, decide_eq_false (fun h : x ≤ t ∧ t < y => h2 h.2)]; rfl)
          go_wp2_with fail
          go_round
          case rel => exact ⟨k + 1, by omega, by go_num, HE2⟩
          case measure => simp [intOf]; omega
      · have HE2 : Hid (T.inB l t = T.inB (l.drop (k + 1)) t) := Lib.hid (by rw [HA.out, HE.out, decide_eq_false (fun h : x ≤ t ∧ t < y => h1 h.1)]; rfl)
        go_wp2_with fail
        go_round
        case rel => exact ⟨k + 1, by omega, by go_num, HE2⟩
        case measure => simp [intOf]; omega
    · have HO := Lib.hid (HA.out.trans (T.inB_end (by rw [Hm.out]; exact hlt) t))
      go_wp2_with fail
      go_ret
      exact bool_post HO.out
set_option maxRecDepth 100000 in
set_option maxHeartbeats 4000000 in
theorem RSame_eq (A A2 : Option Addr) (c c2 m : Nat) (l : List SV) (w : World) (hb : SpIn w w.heap.size A c l) (hb2 : SpIn w w.heap.size A2 c2 l) (hm : l.length = m) :
    Calls Tryd.prog 30 #[.slice A m c, .slice A2 m c2] w fun e w' => e = .returned (.bool true) ∧ Below w.heap.size w w' := by
  have hlc := hb.le
  have hcm := hb.cap
  have hlc2 := hb2.le
  have hcm2 := hb2.cap
  unfold maxLen at hcm hcm2
  have Hm := Lib.hid hm
  have HB := Lib.hid hb
  have HB2 := Lib.hid hb2
  rw [hm] at hlc hlc2
  clear hm hb hb2
  go_enter Tryd.func30, Tryd.ntmps30
  go_wp2_with fail
  go_loopw [5] (fun i wr => ∃ k : Nat, k ≤ m ∧ i = .int .i64 k ∧ Below w.heap.size w wr) (fun i _ => m - (intOf i).toNat)
  case atStart => exact ⟨0, Nat.zero_le _, rfl, Below.refl _ _⟩
  case round =>
    obtain ⟨k, hk, rfl, hbel⟩ := hrel
    by_cases hlt : k < m
    · have hkf : k < l.length := by rw [Hm.out]; exact hlt
      obtain ⟨ad, rfl, hlb, c0, c1⟩ := (HB.out.below hbel).at_ hkf
      obtain ⟨ad2, rfl, hlb2, d0, d1⟩ := (HB2.out.below hbel).at_ hkf
      obtain ⟨x, y, hs⟩ : ∃ x y, l[k]'hkf = (x, y) := ⟨_, _, rfl⟩
      rw [hs] at c0 c1 d0 d1
      rw [addr_one] at c1 d1
      clear hs
      go_wp2_with fail
      go_quiet (fail)
      go_wp2_with fail
      go_roundw
      case rel => exact ⟨k + 1, by omega, by go_num, below_dn hbel _⟩
      case measure => simp [intOf]; omega
    · go_wp2_with fail
      go_ret
      exact ⟨rfl, hbel⟩
end Go.Proofs.YtnehllkklmdpfaaDoor
