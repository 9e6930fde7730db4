/- The walk of the law HmacVerifies. -/
import Derived.Test.YtgpgnfdbjljljaaDoorHmShown
import Derived.Test.YtgpgnfdbjljljaaDoorHmREq
namespace Go.Proofs.YtgpgnfdbjljljaaDoor
open Go.RowKit
set_option maxRecDepth 100000 in
set_option maxHeartbeats 2000000 in
theorem HmacVerifies_walk (A A2 A3 : Option Addr) (c c2 c3 : Nat) (key b t : List UInt8) (w : World) (hK : S.SLaid w) (hin : BytesIn w w.heap.size A c key) (hin2 : BytesIn w w.heap.size A2 c2 b) (hin3 : BytesIn w w.heap.size A3 c3 t) :
    Calls Tryd.prog 8 #[.slice A key.length c, .slice A2 b.length c2, .slice A3 t.length c3] w fun e w' => e = .returned (.bool true) ∧ Below w.heap.size w w' := by
  have h2 := hK.lt.1
  have HK := Lib.hid hK
  by_cases hs : key.length ≤ 300 ∧ b.length ≤ 300 ∧ t.length ≤ 300
  · have HV1 := Lib.hid (fun w hw hi hi2 hi3 => HVerify_any A A2 A3 c c2 c3 key b t w hw hi hi2 hi3 (by omega) (by omega) (by omega))
    have HV2 := Lib.hid (fun w hi hi2 hi3 => RVerify_any A A2 A3 c c2 c3 key b t w hi hi2 hi3 (by omega) (by omega))
    generalize M.code (decide (M.tag key b = t)) = r at HV1 HV2
    obtain ⟨N1, HN1⟩ : ∃ N, Hid (N = key.length) := ⟨_, Lib.hid rfl⟩
    obtain ⟨N2, HN2⟩ : ∃ N, Hid (N = b.length) := ⟨_, Lib.hid rfl⟩
    obtain ⟨N3, HN3⟩ : ∃ N, Hid (N = t.length) := ⟨_, Lib.hid rfl⟩
    rw [← HN1.out] at hs HV1 HV2 ⊢
    rw [← HN2.out] at hs HV1 HV2 ⊢
    rw [← HN3.out] at hs HV1 HV2 ⊢
    have hn1 : ¬ (300 : Int) < (N1 : Int) := by omega
    have hn2 : ¬ (300 : Int) < (N2 : Int) := by omega
    have hn3 : ¬ (300 : Int) < (N3 : Int) := by omega
    have HI := Lib.hid hin
    have HI2 := Lib.hid hin2
    have HI3 := Lib.hid hin3
    clear hin hin2 hin3 hK hs
    go_enter Tryd.func8, Tryd.ntmps8
    go_wp2_with fail
    refine (HV1.out _ HK.out HI.out HI2.out HI3.out).mono ?_
    rintro e w1 ⟨rfl, hb1⟩
    have HW1 := Lib.hid hb1
    clear hb1
    go_wp2_with fail
    refine (HV2.out _ ((HI.out.below HW1.out).more HW1.out.size) ((HI2.out.below HW1.out).more HW1.out.size) ((HI3.out.below HW1.out).more HW1.out.size)).mono ?_
    rintro e w2 ⟨rfl, hb2⟩
    have HW2 := Lib.hid (HW1.out.trans (hb2.mono HW1.out.size))
    clear hb2
    go_wp2_with fail
    refine (hshown_any _ (HK.out.below HW2.out (by omega))).mono ?_
    rintro e w5 ⟨rfl, hb5⟩
    have HW5 := Lib.hid (HW2.out.trans (hb5.mono HW2.out.size))
    clear hb5
    go_wp2_with fail
    go_ret
    exact ⟨rfl, HW5.out⟩
  · have hcap := Nat.le_trans hin.le hin.cap
    have hcap2 := Nat.le_trans hin2.le hin2.cap
    have hcap3 := Nat.le_trans hin3.le hin3.cap
    unfold maxLen at hcap hcap2 hcap3
    generalize key.length = N1 at hs hcap ⊢
    generalize b.length = N2 at hs hcap2 ⊢
    generalize t.length = N3 at hs hcap3 ⊢
    clear hin hin2 hin3 hK
    rcases (show 300 < N1 ∨ (N1 ≤ 300 ∧ 300 < N2) ∨ (N1 ≤ 300 ∧ N2 ≤ 300 ∧ 300 < N3) by omega) with h | ⟨h, h'⟩ | ⟨h, h', h''⟩
    all_goals
      go_enter Tryd.func8, Tryd.ntmps8
      go_wp2_with fail
      refine (hshown_any _ HK.out).mono ?_
      rintro e w3 ⟨rfl, hb3⟩
      go_wp2_with fail
      go_ret
      exact ⟨rfl, hb3⟩
end Go.Proofs.YtgpgnfdbjljljaaDoor
