/- The walk of the law HmacEquals. -/
import Derived.Test.YtgpgnfdbjljljaaDoorHmShown
import Derived.Test.YtgpgnfdbjljljaaDoorHmREq
namespace Go.Proofs.YtgpgnfdbjljljaaDoor
open Go.RowKit
theorem M.dec_comm (a b : List UInt8) : decide (b = a) = decide (a = b) := by
  by_cases h : a = b
  · subst h; rfl
  · rw [decide_eq_false h, decide_eq_false (fun e => h e.symm)]
set_option maxRecDepth 100000 in
set_option maxHeartbeats 2000000 in
theorem HmacEquals_walk (A A2 : Option Addr) (c c2 : Nat) (a b : List UInt8) (w : World) (hK : S.SLaid w) (hin : BytesIn w w.heap.size A c a) (hin2 : BytesIn w w.heap.size A2 c2 b) :
    Calls Tryd.prog 7 #[.slice A a.length c, .slice A2 b.length c2] w fun e w' => e = .returned (.bool true) ∧ Below w.heap.size w w' := by
  have h2 := hK.lt.1
  have HK := Lib.hid hK
  by_cases hs : a.length ≤ 300 ∧ b.length ≤ 300
  · have HE1 := Lib.hid (fun w hi hi2 => Equal_any A A2 c c2 a b w hi hi2 (by omega) (by omega))
    have HE2 := Lib.hid (fun w hi hi2 => REqual_any A A2 c c2 a b w hi hi2 (by omega) (by omega))
    have HE3 := fun w hi hi2 => Equal_any A2 A c2 c b a w hi hi2 (by omega) (by omega)
    rw [Nat.max_comm, M.dec_comm] at HE3
    replace HE3 := Lib.hid HE3
    have HC1 := Lib.hid (fun (w : World) (hi : BytesIn w w.heap.size A c a) => conv_in hi)
    have HC2 := Lib.hid (fun (w : World) (hi : BytesIn w w.heap.size A2 c2 b) => conv_in hi)
    have hmx : max a.length b.length ≤ 300 := by omega
    generalize max a.length b.length = m at HE1 HE2 HE3 hmx
    obtain ⟨r, HR⟩ : ∃ r, Hid (r = decide (a = b)) := ⟨_, Lib.hid rfl⟩
    rw [← HR.out] at HE1 HE2 HE3
    obtain ⟨N1, HN1⟩ : ∃ N, Hid (N = a.length) := ⟨_, Lib.hid rfl⟩
    obtain ⟨N2, HN2⟩ : ∃ N, Hid (N = b.length) := ⟨_, Lib.hid rfl⟩
    rw [← HN1.out] at hs HE1 HE2 HE3 HC1 ⊢
    rw [← HN2.out] at hs HE1 HE2 HE3 HC2 ⊢
    have hn1 : ¬ (300 : Int) < (N1 : Int) := by omega
    have hn2 : ¬ (300 : Int) < (N2 : Int) := by omega
    have HI := Lib.hid hin
    have HI2 := Lib.hid hin2
    clear hin hin2 hK hs
    go_enter Tryd.func7, Tryd.ntmps7
    go_wp2_with fail
    refine (HE1.out _ HI.out HI2.out).mono ?_
    rintro e w1 ⟨rfl, hb1⟩
    have HW1 := Lib.hid hb1
    clear hb1
    go_wp2_with fail
    refine (HE2.out _ ((HI.out.below HW1.out).more HW1.out.size) ((HI2.out.below HW1.out).more HW1.out.size)).mono ?_
    rintro e w2 ⟨rfl, hb2⟩
    have HW2 := Lib.hid (HW1.out.trans (hb2.mono HW1.out.size))
    clear hb2
    go_wp2_with fail
    refine (HE3.out _ ((HI2.out.below HW2.out).more HW2.out.size) ((HI.out.below HW2.out).more HW2.out.size)).mono ?_
    rintro e w3 ⟨rfl, hb3⟩
    have HW3 := Lib.hid (HW2.out.trans (hb3.mono HW2.out.size))
    clear hb3
    have k1 := HC1.out _ ((HI.out.below HW3.out).more HW3.out.size)
    have k2 := HC2.out _ ((HI2.out.below HW3.out).more HW3.out.size)
    by_cases hab : a = b
    · have hr : r = true := by rw [HR.out]; exact decide_eq_true hab
      subst hab
      subst hr
      clear HR
      go_wp2_with fail
      refine (hshown_any _ (HK.out.below HW3.out (by omega))).mono ?_
      rintro e w5 ⟨rfl, hb5⟩
      have HW5 := Lib.hid (HW3.out.trans (hb5.mono HW3.out.size))
      clear hb5 k1 k2
      go_wp2_with fail
      go_ret
      exact ⟨rfl, HW5.out⟩
    · have hr : r = false := by rw [HR.out]; exact decide_eq_false hab
      subst hr
      have hab2 : ¬ (⟨a.toArray⟩ : ByteArray) = ⟨b.toArray⟩ := fun e => hab (by have := congrArg (fun x : ByteArray => x.data.toList) e; simpa using this)
      clear HR
      go_wp2_with fail
      refine (hshown_any _ (HK.out.below HW3.out (by omega))).mono ?_
      rintro e w5 ⟨rfl, hb5⟩
      have HW5 := Lib.hid (HW3.out.trans (hb5.mono HW3.out.size))
      clear hb5 k1 k2
      go_wp2_with fail
      go_ret
      exact ⟨by show Ending.returned (.bool (!(a == b))) = .returned (.bool true); rw [beq_eq_false_iff_ne.2 hab]; rfl, HW5.out⟩
  · have hcap := Nat.le_trans hin.le hin.cap
    have hcap2 := Nat.le_trans hin2.le hin2.cap
    unfold maxLen at hcap hcap2
    generalize a.length = N1 at hs hcap ⊢
    generalize b.length = N2 at hs hcap2 ⊢
    clear hin hin2 hK
    rcases (show 300 < N1 ∨ (N1 ≤ 300 ∧ 300 < N2) by omega) with h | ⟨h, h'⟩
    all_goals
      go_enter Tryd.func7, Tryd.ntmps7
      go_wp2_with fail
      refine (hshown_any _ HK.out).mono ?_
      rintro e w3 ⟨rfl, hb3⟩
      go_wp2_with fail
      go_ret
      exact ⟨rfl, hb3⟩
end Go.Proofs.YtgpgnfdbjljljaaDoor
