/- The contract of words.List. -/
import Derived.Test.YtbjfpmklmhgbdaaDoorWordsList
namespace Go.Proofs.YtbjfpmklmhgbdaaDoor
open Go.RowKit

set_option maxRecDepth 100000 in
set_option maxHeartbeats 4000000 in
theorem List_any (g o cap : Nat) (l : List Int) (w : World) (hc : ∀ j, j < l.length → w.cell? ⟨g, o + j, none⟩ = some (.int .i64 (W.nth l j))) (hg : g < w.heap.size) (hl : l.length ≤ 500) (h0l : 0 < l.length)
    (hr : ∀ j, 0 ≤ W.nth l j ∧ W.nth l j ≤ 1000000000) (hasc : ∀ j, j + 1 < l.length → W.nth l j < W.nth l (j + 1)) (hpow : PowIn w) (h0 : 3 < w.heap.size) :
    Calls Tryd.prog 28 #[.slice (some ⟨g, o, none⟩) l.length cap] w fun e w' => e = .returned (.tuple #[.string ⟨(Lib.join (W.texts l l.length 0) [44]).toArray⟩, .int .i64 0]) ∧ Below w.heap.size w w' := by
  have HP := Lib.hid (printRuns_any g o cap l)
  have Hc := Lib.hid hc
  have Hr := Lib.hid hr
  have Hp := Lib.hid hpow
  have Ha := Lib.hid hasc
  obtain ⟨m, hm⟩ : ∃ m, l.length = m := ⟨_, rfl⟩
  have Hm := Lib.hid hm
  rw [hm] at hl h0l ⊢
  clear hc hr hpow hm hasc
  go_enter Tryd.func28, Tryd.ntmps28
  go_wp2_with fail
  go_loopw [12] (fun c wr => ∃ n : Nat, n ≤ m ∧ c = .int .i64 n ∧ Below w.heap.size w wr) (fun c _ => m - (intOf c).toNat)
  case atStart => exact ⟨0, Nat.zero_le _, rfl, Below.refl _ _⟩
  case round =>
    obtain ⟨n, hn, rfl, hbel⟩ := hrel
    by_cases hlt : n < m
    · have c1 : wr.cell? ⟨g, o + n, none⟩ = some (.int .i64 (W.nth l n)) := (hbel.cell (p := ⟨g, o + n, none⟩) hg).trans (Hc.out n (by rw [Hm.out]; exact hlt))
      have hrn := Hr.out n
      obtain ⟨a, ha⟩ : ∃ a, W.nth l n = a := ⟨_, rfl⟩
      rw [ha] at c1 hrn
      have Hrn := Lib.hid ha
      clear ha
      have hd1 : decide (a < 0) = false := by simp; omega
      have hd2 : decide (1000000000 < a) = false := by simp; omega
      have hsz := hbel.size
      go_wp2_with fail
      go_roundw
      case rel => exact ⟨n + 1, by omega, by go_num, hbel⟩
      case measure => simp [intOf]; omega
    · go_wp2_with fail
      obtain ⟨wo, rfl⟩ : ∃ wo : World, wo = wr := ⟨_, rfl⟩
      go_loopw [6] (fun c wr => ∃ k : Nat, k < m ∧ c = .int .i64 ((k : Int) + 1) ∧ Below wo.heap.size wo wr) (fun c _ => m - (intOf c).toNat)
      case atStart => exact ⟨0, h0l, rfl, Below.refl _ _⟩
      case round =>
        obtain ⟨k, hk, rfl, hb2⟩ := hrel
        have hbw := bt hbel hb2
        have hw1 : IntKind.i64.wrap ((k : Int) + 1 - 1) = (k : Int) := by rw [show (k : Int) + 1 - 1 = (k : Int) by omega]; exact IntWalk.i64_in _ (by omega)
        have hw2 : IntKind.i64.wrap ((k : Int) + 1 + 1) = (k : Int) + 1 + 1 := IntWalk.i64_in _ (by omega)
        by_cases hlt2 : k + 1 < m
        · have c1 : wr.cell? ⟨g, o + k, none⟩ = some (.int .i64 (W.nth l k)) := (hbw.cell (p := ⟨g, o + k, none⟩) hg).trans (Hc.out k (by rw [Hm.out]; omega))
          have c2 : wr.cell? ⟨g, o + (k + 1), none⟩ = some (.int .i64 (W.nth l (k + 1))) := (hbw.cell (p := ⟨g, o + (k + 1), none⟩) hg).trans (Hc.out (k + 1) (by rw [Hm.out]; omega))
          have c2' : wr.cell? ⟨g, o + k + 1, none⟩ = some (.int .i64 (W.nth l (k + 1))) := by rw [Nat.add_assoc]; exact c2
          have hab := Ha.out k (by rw [Hm.out]; exact hlt2)
          obtain ⟨a, ha⟩ : ∃ a, W.nth l k = a := ⟨_, rfl⟩
          obtain ⟨b, hb⟩ : ∃ b, W.nth l (k + 1) = b := ⟨_, rfl⟩
          rw [ha] at c1 hab
          rw [hb] at c2 c2' hab
          clear ha hb
          have hs3 : ((k : Int) + 1).toNat = k + 1 := by omega
          have hs4 : decide ((k : Int) + 1 < (m : Int)) = true := by simp; omega
          have hs5 : (0 : Int) ≤ (k : Int) + 1 := by omega
          have hs6 : (k : Int) + 1 < (m : Int) := by omega
          have hs7 : decide (b ≤ a) = false := by simp; omega
          go_wp2_with fail
          go_quiet (fail)
          go_wp2_with fail
          go_roundw
          case rel => exact ⟨k + 1, by omega, by go_num, below_drewN hb2 _⟩
          case measure => simp [intOf]; omega
        · have hs4 : decide ((k : Int) + 1 < (m : Int)) = false := by simp; omega
          have hpw := Hp.out.below hbw h0
          have HPP := Lib.hid hpw
          clear hpw
          have hP := HP.out wr
          rw [Hm.out] at hP
          have hP' := hP (fun j hj => (hbw.cell (p := ⟨g, o + j, none⟩) hg).trans (Hc.out j (by rw [Hm.out]; exact hj))) (Nat.lt_of_lt_of_le hg hbw.size) hl Hr.out HPP.out (Nat.lt_of_lt_of_le h0 hbw.size)
          clear hP
          have Hbw := Lib.hid hbw
          go_wp2_with fail
          refine hP'.mono ?_
          rintro e w1 ⟨rfl, hb1⟩
          have hb := hbw.trans (hb1.mono hbw.size)
          go_wp2_with fail
          go_ret2
          exact ⟨rfl, hb⟩
end Go.Proofs.YtbjfpmklmhgbdaaDoor
