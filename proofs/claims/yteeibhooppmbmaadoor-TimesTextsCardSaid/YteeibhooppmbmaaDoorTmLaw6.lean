/- The walk of TimesTexts. -/
import Derived.Test.YteeibhooppmbmaaDoorTmLaid
import Derived.Test.YteeibhooppmbmaaDoorTmRParse
namespace Go.Proofs.YteeibhooppmbmaaDoor
open Go Go.ChangeShapes Go.WideShapes Go.ChangeAt Go.RowKit Go.ChangeMaps
set_option linter.unusedSimpArgs false
set_option maxRecDepth 100000
theorem texts_long (t : Int) (l : List UInt8) (m : Nat) (hm : l.length = m) (h : 100 < m) (w : World) (hT : Tab w) (hmx : m ≤ 9223372036854775807) :
    Calls Tryd.prog 5 #[.int .i64 t, .string ⟨l.toArray⟩] w fun e w' => e = .returned (.bool true) ∧ Below w.heap.size w w' := by
  have HW := Lib.hid (awake_any w hT)
  obtain ⟨S, hS⟩ : ∃ S, S = (⟨l.toArray⟩ : ByteArray) := ⟨_, rfl⟩
  have hsz : S.size = m := by rw [hS]; show l.toArray.size = _; simp [hm]
  rw [← hS]
  have g : (100 : Int) < (m : Int) := by omega
  clear hS hm hT h
  go_enter Tryd.func5, Tryd.ntmps5
  go_wp2_with fail
  refine HW.out.mono ?_
  rintro e w5 ⟨rfl, hb⟩
  go_wp2_with fail
  go_ret
  exact ⟨rfl, hb⟩
theorem text_back {t v e : Int} (h0 : 0 ≤ t) (h1 : t ≤ 9223372036854775807) (h : T.PRes (T.text t) v e) : v = t ∧ e = 0 :=
  T.pres_eq h (Or.inl ⟨⟨h0, h1, rfl⟩, rfl⟩)
set_option maxHeartbeats 2000000 in
theorem texts_short (t : Int) (ht : T.R64 t) (l : List UInt8) (m : Nat) (hm : l.length = m) (h : m ≤ 100) (w : World) (hT : Tab w) :
    Calls Tryd.prog 5 #[.int .i64 t, .string ⟨l.toArray⟩] w fun e w' => e = .returned (.bool true) ∧ Below w.heap.size w w' := by
  have HT := Lib.hid hT
  have P1 := Lib.hid (Print_any t ht w hT)
  have P2 := Lib.hid (fun w => RPrint_any t ht w)
  have Q1 := Lib.hid (fun w h => Parse_any l (by omega) w h)
  have Q2 := Lib.hid (fun w => RParse_any l (by omega) w)
  have R1 := Lib.hid (fun v hv w h => Print_any v hv w h)
  have R2 := Lib.hid (fun w (h : Tab w) (h0 : 0 ≤ t) => Parse_any (T.text t) (by have := T.text_len h0 ht.2; omega) w h)
  have HR := Lib.hid ht
  obtain ⟨S, hS⟩ : ∃ S, S = (⟨l.toArray⟩ : ByteArray) := ⟨_, rfl⟩
  have hsz : S.size = m := by rw [hS]; show l.toArray.size = _; simp [hm]
  have HS := Lib.hid hS
  rw [← hS] at Q1 Q2 ⊢
  have g : ¬ (100 : Int) < (m : Int) := by omega
  unfold PrintPost at P1 P2
  clear hS hm hT ht
  by_cases h0 : 0 ≤ t
  · rw [show T.printL t = T.text t from if_pos h0, show T.printE t = 0 from if_pos h0] at P1 P2
    have R2' := Lib.hid (fun w h => R2.out w h h0)
    have HB := Lib.hid (fun v e h => text_back (v := v) (e := e) h0 HR.out.2 h)
    generalize T.text t = tx at P1 P2 R2' HB
    obtain ⟨X, hX⟩ : ∃ X, X = (⟨tx.toArray⟩ : ByteArray) := ⟨_, rfl⟩
    rw [← hX] at P1 P2 R2'
    clear R2 hX h0
    go_enter Tryd.func5, Tryd.ntmps5
    go_wp2_with fail
    refine P1.out.mono ?_
    rintro e w1 ⟨rfl, hb1⟩
    go_wp2_with fail
    refine (P2.out _).mono ?_
    rintro e w2 ⟨rfl, hb⟩
    have hb2 := bt hb1 hb1.size hb
    have Q1' := Lib.hid (Q1.out w2 (HT.out.on hb2))
    clear hb hb1
    go_wp2_with fail
    refine Q1'.out.mono ?_
    rintro e w3 ⟨pv, pe, rfl, hp, hb⟩
    have hb3 := bt hb2 hb2.size hb
    clear hb hb2
    unfold T.pr
    go_wp2_with fail
    refine (Q2.out _).mono ?_
    rintro e w4 ⟨pv2, pe2, rfl, hp2, hb⟩
    obtain ⟨rfl, rfl⟩ := T.pres_eq hp hp2
    have hb4 := bt hb3 hb3.size hb
    have R3 := Lib.hid (R2'.out w4 (HT.out.on hb4))
    clear hb hb3 hp2
    unfold T.pr
    rcases hp with ⟨hto, rfl⟩ | ⟨_, rfl, rfl⟩
    · have R4 := Lib.hid (fun w h => R1.out pv ⟨by have := hto.1; omega, hto.2.1⟩ w h)
      unfold PrintPost at R4
      rw [show T.printL pv = T.text pv from if_pos hto.1, show T.printE pv = 0 from if_pos hto.1, ← hto.2.2, ← HS.out] at R4
      clear hto
      go_wp2_with fail
      refine R3.out.mono ?_
      rintro e w5 ⟨bv, be, rfl, hbk, hb⟩
      obtain ⟨rfl, rfl⟩ := HB.out bv be hbk
      have hb5 := bt hb4 hb4.size hb
      have R4' := Lib.hid (R4.out w5 (HT.out.on hb5))
      clear hb hb4 hbk
      unfold T.pr
      go_wp2_with fail
      refine R4'.out.mono ?_
      rintro e w6 ⟨rfl, hb⟩
      have hb6 := bt hb5 hb5.size hb
      have HW := Lib.hid (awake_any w6 (HT.out.on hb6))
      clear hb hb5
      go_wp2_with fail
      refine HW.out.mono ?_
      rintro e w7 ⟨rfl, hb⟩
      have hb7 := bt hb6 hb6.size hb
      go_wp2_with fail
      go_ret
      exact ⟨rfl, hb7⟩
    · go_wp2_with fail
      refine R3.out.mono ?_
      rintro e w5 ⟨bv, be, rfl, hbk, hb⟩
      obtain ⟨rfl, rfl⟩ := HB.out bv be hbk
      have hb5 := bt hb4 hb4.size hb
      have HW := Lib.hid (awake_any w5 (HT.out.on hb5))
      clear hb hb4 hbk
      unfold T.pr
      go_wp2_with fail
      refine HW.out.mono ?_
      rintro e w7 ⟨rfl, hb⟩
      have hb7 := bt hb5 hb5.size hb
      go_wp2_with fail
      go_ret
      exact ⟨rfl, hb7⟩
  · rw [show T.printL t = [] from if_neg h0, show T.printE t = 7 from if_neg h0] at P1 P2
    clear R2 h0
    go_enter Tryd.func5, Tryd.ntmps5
    go_wp2_with fail
    refine P1.out.mono ?_
    rintro e w1 ⟨rfl, hb1⟩
    go_wp2_with fail
    refine (P2.out _).mono ?_
    rintro e w2 ⟨rfl, hb⟩
    have hb2 := bt hb1 hb1.size hb
    have Q1' := Lib.hid (Q1.out w2 (HT.out.on hb2))
    clear hb hb1
    go_wp2_with fail
    refine Q1'.out.mono ?_
    rintro e w3 ⟨pv, pe, rfl, hp, hb⟩
    have hb3 := bt hb2 hb2.size hb
    clear hb hb2
    unfold T.pr
    go_wp2_with fail
    refine (Q2.out _).mono ?_
    rintro e w4 ⟨pv2, pe2, rfl, hp2, hb⟩
    obtain ⟨rfl, rfl⟩ := T.pres_eq hp hp2
    have hb4 := bt hb3 hb3.size hb
    clear hb hb3 hp2
    unfold T.pr
    rcases hp with ⟨hto, rfl⟩ | ⟨_, rfl, rfl⟩
    · have R4 := Lib.hid (R1.out pv ⟨by have := hto.1; omega, hto.2.1⟩ w4 (HT.out.on hb4))
      unfold PrintPost at R4
      rw [show T.printL pv = T.text pv from if_pos hto.1, show T.printE pv = 0 from if_pos hto.1, ← hto.2.2, ← HS.out] at R4
      clear hto
      go_wp2_with fail
      refine R4.out.mono ?_
      rintro e w6 ⟨rfl, hb⟩
      have hb6 := bt hb4 hb4.size hb
      have HW := Lib.hid (awake_any w6 (HT.out.on hb6))
      clear hb hb4
      go_wp2_with fail
      refine HW.out.mono ?_
      rintro e w7 ⟨rfl, hb⟩
      have hb7 := bt hb6 hb6.size hb
      go_wp2_with fail
      go_ret
      exact ⟨rfl, hb7⟩
    · have HW := Lib.hid (awake_any w4 (HT.out.on hb4))
      go_wp2_with fail
      refine HW.out.mono ?_
      rintro e w7 ⟨rfl, hb⟩
      have hb7 := bt hb4 hb4.size hb
      go_wp2_with fail
      go_ret
      exact ⟨rfl, hb7⟩
theorem TimesTexts_walk (t : Int) (ht : T.R64 t) (l : List UInt8) (hl : l.length ≤ 9223372036854775807) (w : World) (hT : Tab w) :
    Calls Tryd.prog 5 #[.int .i64 t, .string ⟨l.toArray⟩] w fun e w' => e = .returned (.bool true) ∧ Below w.heap.size w w' := by
  by_cases h : 100 < l.length
  · exact texts_long t l _ rfl h w hT hl
  · exact texts_short t ht l _ rfl (by omega) w hT
theorem open_str {H : Type} {enc : TypeId × Value → H} {W : World} {base : Nat} {v0 : Value} {d0 : DataW H} {p : List MemPlace} (hv : Value.okWide Tryd.prog W .any base 9 v0) (h : DataW.Trod enc Tryd.prog W 0 (fun _ => true) true 9 v0 d0 p) :
    ∃ l : List UInt8, v0 = .string ⟨l.toArray⟩ ∧ l.length ≤ 9223372036854775807 := by
  obtain ⟨s, rfl, _, _, hs⟩ := open_string Tryd.underlying9 hv h
  unfold maxLen at hs
  exact ⟨s.data.toList, rfl, by have : s.data.size ≤ 2 ^ 63 - 1 := hs; simpa using this⟩
end Go.Proofs.YteeibhooppmbmaaDoor
