/- The walk of TimesTicks. -/
import Derived.Test.YteeibhooppmbmaaDoorTmOpen
import Derived.Test.YteeibhooppmbmaaDoorTmLaw2
namespace Go.Proofs.YteeibhooppmbmaaDoor
open Go.RowKit
set_option linter.unusedSimpArgs false
set_option maxRecDepth 100000
theorem NumIn.below {w w' : World} {B : Nat} {A : Option Addr} {c : Nat} {l : List Int} (h : NumIn w B A c l) (hb : Below B w w') : NumIn w' B A c l :=
  ⟨h.le, h.cap, h.none_, fun ad e k hk => by
    obtain ⟨h1, h2⟩ := h.cells ad e k hk
    exact ⟨h1, by rw [hb.cell (by rw [addr_block]; exact h1)]; exact h2⟩, h.nums⟩
theorem NumIn.at_ {w : World} {B : Nat} {A : Option Addr} {c : Nat} {l : List Int} (h : NumIn w B A c l) {k : Nat} (hk : k < l.length) : ∃ ad, A = some ad ∧ w.cell? (ad.add k) = some (.int .i64 l[k]) := by
  cases A with
  | none => obtain ⟨rfl, _⟩ := h.none_ rfl; simp at hk
  | some ad => exact ⟨ad, rfl, (h.cells ad rfl k hk).2⟩
/-- Between two rounds of TimesTicks. -/
structure TI (w : World) (d now : Int) (was : Bool) (wr : World) : Prop where
  nn : 0 ≤ now ∧ now ≤ 9223372036854775807
  was_ : was = true → d ≤ now
  bel : Below w.heap.size w wr
set_option maxHeartbeats 4000000 in
theorem ticks_loop (d : Int) (hd : T.R64 d) (A : Option Addr) (c m : Nat) (l : List Int) (w : World) (hT : Tab w) (hl : NumIn w w.heap.size A c l) (hm : l.length = m) (h50 : m ≤ 50) (d0 : 0 ≤ d) :
    Calls Tryd.prog 7 #[.int .i64 d, .slice A m c] w fun e w' => e = .returned (.bool true) ∧ Below w.heap.size w w' := by
  have HT := Lib.hid hT
  have HL := Lib.hid hl
  have Hm := Lib.hid hm
  have hle := hl.le
  have hcm := hl.cap
  unfold maxLen at hcm
  rw [hm] at hle
  have HD := Lib.hid hd
  unfold T.R64 at hd
  clear hT hl hm
  go_enter Tryd.func7, Tryd.ntmps7
  go_wp2_with fail
  go_loopw [5, 6, 7] (fun n b i wr => ∃ (k : Nat) (now : Int) (was : Bool), k ≤ m ∧ i = .int .i64 k ∧ n = .int .i64 now ∧ b = .bool was ∧ Hid (TI w d now was wr)) (fun _ _ i _ => m - (intOf i).toNat)
  case atStart => exact ⟨0, 0, false, Nat.zero_le _, rfl, rfl, rfl, Lib.hid ⟨by omega, (fun h => by cases h), Below.refl _ _⟩⟩
  case round =>
    obtain ⟨k, now, was, hk, rfl, rfl, rfl, hI⟩ := hrel
    by_cases hlt : k < m
    · have hkf : k < l.length := by rw [Hm.out]; exact hlt
      obtain ⟨ad, rfl, c0⟩ := (HL.out.below hI.out.bel).at_ hkf
      have hnum := HL.out.nums l[k] (List.getElem_mem hkf)
      obtain ⟨s, hs⟩ : ∃ s, l[k]'hkf = s := ⟨_, rfl⟩
      rw [hs] at c0 hnum
      have hnn := hI.out.nn
      have AD := Lib.hid (fun w => Advance_any now s w)
      have HNum := Lib.hid hnum
      unfold T.R64 at hnum
      have Hs := Lib.hid hs
      clear hs
      by_cases hbad : s < 0 ∨ s < now
      · obtain ⟨E, hE, hE0⟩ : ∃ E : Int, T.advE now s = E ∧ (E == (0 : Int)) = false := by
          refine ⟨_, rfl, ?_⟩
          unfold T.advE
          by_cases h1 : s < 0
          · rw [if_neg (by omega)]; rfl
          · rw [if_pos (by omega), if_pos (by omega)]; rfl
        obtain ⟨V, hV⟩ : ∃ V, T.advV now s = V := ⟨_, rfl⟩
        rw [hE, hV] at AD
        unfold T.pr at AD
        clear hE hV hnum hnn
        by_cases h1 : s < 0
        all_goals
          first | (have h2 : s < now := by omega) | skip
          clear hbad
          go_wp2_with fail
          refine (AD.out _).mono ?_
          rintro e w1 ⟨rfl, hb⟩
          have hb1 : Below w.heap.size w w1 := bt hI.out.bel hI.out.bel.size hb
          have c1 := ((HL.out.below hb1).at_ hkf)
          obtain ⟨ad', e', c1⟩ := c1
          injection e' with e'
          subst e'
          have hI1 : Hid (TI w d now was w1) := Lib.hid ⟨hI.out.nn, hI.out.was_, hb1⟩
          rw [Hs.out] at c1
          go_wp2_with fail
          go_roundw
          case rel => exact ⟨k + 1, now, was, by omega, by go_num, rfl, rfl, hI1⟩
          case measure => simp [intOf]; omega
      · have h1 : ¬ s < 0 := by omega
        have h2 : ¬ s < now := by omega
        have hE : T.advE now s = 0 := by unfold T.advE; rw [if_pos (by omega), if_neg h2]
        have hV : T.advV now s = s := by unfold T.advV; rw [if_pos (by omega)]
        rw [hE, hV] at AD
        have PA := Lib.hid (fun w => Passed_any d s HD.out HNum.out w)
        have LE := Lib.hid (fun w => Left_any d s HD.out HNum.out w)
        have hbE : T.badE d s = 0 := if_pos (by omega)
        rw [hbE] at PA LE
        unfold T.pr at AD LE
        unfold T.prB at PA
        have hnn2 : 0 ≤ s ∧ s ≤ 9223372036854775807 := by omega
        clear hE hV hbE hbad
        by_cases hds : d ≤ s
        · rw [show T.passB d s = true from decide_eq_true (by omega)] at PA
          rw [show T.leftV d s = 0 from if_neg (by omega)] at LE
          have hsd : decide (s ≥ d) = true := decide_eq_true hds
          cases was
          all_goals
            go_wp2_with fail
            refine (AD.out _).mono ?_
            rintro e w1 ⟨rfl, hb⟩
            have hb1 : Below w.heap.size w w1 := bt hI.out.bel hI.out.bel.size hb
            obtain ⟨ad', e', c1⟩ := (HL.out.below hb1).at_ hkf
            injection e' with e'
            subst e'
            rw [Hs.out] at c1
            clear hb
            go_wp2_with fail
            refine (PA.out _).mono ?_
            rintro e w2 ⟨rfl, hb⟩
            have hb2 : Below w.heap.size w w2 := bt hb1 hb1.size hb
            clear hb hb1
            go_wp2_with fail
            refine (LE.out _).mono ?_
            rintro e w3 ⟨rfl, hb⟩
            have hb3 : Below w.heap.size w w3 := bt hb2 hb2.size hb
            obtain ⟨ad', e', c3⟩ := (HL.out.below hb3).at_ hkf
            injection e' with e'
            subst e'
            rw [Hs.out] at c3
            have hI3 : Hid (TI w d s true w3) := Lib.hid ⟨hnn2, (fun _ => hds), hb3⟩
            clear hb hb2
            go_wp2_with fail
            go_roundw
            case rel => exact ⟨k + 1, s, true, by omega, by go_num, rfl, rfl, hI3⟩
            case measure => simp [intOf]; omega
        · obtain rfl : was = false := by
            cases h : was
            · rfl
            · have := hI.out.was_ h
              omega
          have hsub : IntKind.i64.wrap (d - s) = d - s := IntWalk.i64_in _ (by omega)
          have hne0 : (d - s == (0 : Int)) = false := by rw [beq_eq_false_iff_ne]; omega
          have hlt0 : ¬ d - s < 0 := by omega
          rw [show T.passB d s = false from decide_eq_false (by omega)] at PA
          rw [show T.leftV d s = d - s from if_pos (by omega)] at LE
          have hsd : decide (s ≥ d) = false := decide_eq_false hds
          have hsd2 : decide (d ≤ s) = false := decide_eq_false hds
          clear hds
          go_wp2_with fail
          refine (AD.out _).mono ?_
          rintro e w1 ⟨rfl, hb⟩
          have hb1 : Below w.heap.size w w1 := bt hI.out.bel hI.out.bel.size hb
          obtain ⟨ad', e', c1⟩ := (HL.out.below hb1).at_ hkf
          injection e' with e'
          subst e'
          rw [Hs.out] at c1
          clear hb
          go_wp2_with fail
          refine (PA.out _).mono ?_
          rintro e w2 ⟨rfl, hb⟩
          have hb2 : Below w.heap.size w w2 := bt hb1 hb1.size hb
          clear hb hb1
          go_wp2_with fail
          refine (LE.out _).mono ?_
          rintro e w3 ⟨rfl, hb⟩
          have hb3 : Below w.heap.size w w3 := bt hb2 hb2.size hb
          obtain ⟨ad', e', c3⟩ := (HL.out.below hb3).at_ hkf
          injection e' with e'
          subst e'
          rw [Hs.out] at c3
          have hI3 : Hid (TI w d s false w3) := Lib.hid ⟨hnn2, (fun h => by cases h), hb3⟩
          clear hb hb2
          go_wp2_with fail
          go_roundw
          case rel => exact ⟨k + 1, s, false, by omega, by go_num, rfl, rfl, hI3⟩
          case measure => simp [intOf]; omega
    · go_wp2_with fail
      refine (awake_any _ (HT.out.on hI.out.bel)).mono ?_
      rintro e w1 ⟨rfl, hb⟩
      have hb1 := bt hI.out.bel hI.out.bel.size hb
      go_wp2_with fail
      go_ret
      exact ⟨rfl, hb1⟩
theorem TimesTicks_walk (d : Int) (hd : T.R64 d) (A : Option Addr) (c m : Nat) (l : List Int) (w : World) (hT : Tab w) (hl : NumIn w w.heap.size A c l) (hm : l.length = m) :
    Calls Tryd.prog 7 #[.int .i64 d, .slice A m c] w fun e w' => e = .returned (.bool true) ∧ Below w.heap.size w w' := by
  by_cases h50 : m ≤ 50
  · by_cases d0 : 0 ≤ d
    · exact ticks_loop d hd A c m l w hT hl hm h50 d0
    · have HW := Lib.hid (awake_any w hT)
      have h1 : ¬ (50 : Int) < m := by omega
      have h2 : d < 0 := by omega
      clear hT hl hm d0
      go_enter Tryd.func7, Tryd.ntmps7
      go_wp2_with fail
      refine HW.out.mono ?_
      rintro e w5 ⟨rfl, hb⟩
      go_wp2_with fail
      go_ret
      exact ⟨rfl, hb⟩
  · have HW := Lib.hid (awake_any w hT)
    have h1 : (50 : Int) < m := by omega
    clear hT hl hm h50
    go_enter Tryd.func7, Tryd.ntmps7
    go_wp2_with fail
    refine HW.out.mono ?_
    rintro e w5 ⟨rfl, hb⟩
    go_wp2_with fail
    go_ret
    exact ⟨rfl, hb⟩
end Go.Proofs.YteeibhooppmbmaaDoor
