/- Same of equal lists of handles. -/
import Derived.Test.YtdkfaepmgennjaaHpAwake
import Derived.Test.YtdkfaepmgennjaaHpSpan
import Derived.Deep.Quiet
import Derived.Deep.QuietTactic
namespace Go.Proofs.Ytdkfaepmgennjaa
open Go.RowKit
open T (SV)
set_option linter.unusedSimpArgs false
set_option maxRecDepth 100000 in
set_option maxHeartbeats 1000000 in
theorem RSame_eq (A A2 : Option Addr) (c c2 m : Nat) (l : List SV) (w : World) (hb : SpIn w w.heap.size A c l) (hb2 : SpIn w w.heap.size A2 c2 l) (hm : l.length = m) :
    Calls Try.prog 18 #[.slice A m c, .slice A2 m c2] w fun e w' => e = .returned (.bool true) ∧ Below w.heap.size w w' := by
  have hlc := hb.le
  have hcm := hb.cap
  have hlc2 := hb2.le
  have hcm2 := hb2.cap
  unfold maxLen at hcm hcm2
  have Hm := Lib.hid hm
  have HB := Lib.hid hb
  have HB2 := Lib.hid hb2
  rw [hm] at hlc hlc2
  clear hm hb hb2
  go_enter Try.func18, Try.ntmps18
  go_wp2_with fail
  go_loopw [5] (fun i wr => ∃ k : Nat, k ≤ m ∧ i = .int .i64 k ∧ Below w.heap.size w wr) (fun i _ => m - (intOf i).toNat)
  case atStart => exact ⟨0, Nat.zero_le _, rfl, Below.refl _ _⟩
  case round =>
    obtain ⟨k, hk, rfl, hbel⟩ := hrel
    by_cases hlt : k < m
    · have hkf : k < l.length := by rw [Hm.out]; exact hlt
      obtain ⟨ad, rfl, hlb, c0, c1⟩ := (HB.out.below hbel).at_ hkf
      obtain ⟨ad2, rfl, hlb2, d0, d1⟩ := (HB2.out.below hbel).at_ hkf
      obtain ⟨x, y, hs⟩ : ∃ x y, l[k]'hkf = (x, y) := ⟨_, _, rfl⟩
      rw [hs] at c0 c1 d0 d1
      rw [addr_one] at c1 d1
      clear hs
      go_wp2_with fail
      go_quiet (fail)
      go_wp2_with fail
      go_roundw
      case rel => exact ⟨k + 1, by omega, by go_num, below_dn_ hbel _⟩
      case measure => simp [intOf]; omega
    · go_wp2_with fail
      go_ret
      exact ⟨rfl, hbel⟩
end Go.Proofs.Ytdkfaepmgennjaa
