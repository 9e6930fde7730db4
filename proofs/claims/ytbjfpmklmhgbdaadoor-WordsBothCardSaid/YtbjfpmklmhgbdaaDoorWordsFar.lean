/- Contracts of far, tooLong and write. -/
import Derived.Test.YtbjfpmklmhgbdaaDoorWordsFld
namespace Go.Proofs.YtbjfpmklmhgbdaaDoor
open Go.RowKit
def FarOk (fs : List FV) : Prop := fs.length ≤ 70 ∧ ∀ j (h : j < fs.length), (fs[j]).1.length ≤ 2100
/-- What a call of far leaves. -/
def FarPost (fs : List FV) (w : World) (e : Ending) (w' : World) : Prop := ∃ r, e = .returned (.bool r) ∧ (r = false → FarOk fs) ∧ w = w'
theorem far_yes (fs : List FV) (w : World) : FarPost fs w (.returned (.bool true)) w := ⟨true, rfl, fun h => (by cases h), rfl⟩
theorem far_no {fs : List FV} (h : FarOk fs) (r : Bool) (w : World) : FarPost fs w (.returned (.bool r)) w := ⟨r, rfl, fun _ => h, rfl⟩
set_option maxRecDepth 100000 in
set_option maxHeartbeats 1000000 in
theorem far_some (ad : Addr) (c m : Nat) (fs : List FV) (w : World) (hb : FieldsIn w w.heap.size (some ad) c fs) (hm : fs.length = m) :
    Calls Tryd.prog 24 #[.slice (some ad) m c] w (FarPost fs w) := by
  have hlc := hb.le
  have hcm := hb.cap
  unfold maxLen at hcm
  have Hm := Lib.hid hm
  have HC := Lib.hid hb.cells
  rw [hm] at hlc
  clear hm hb
  by_cases hbig : 70 < m
  · have hbig' : (70 : Int) < m := by omega
    clear hbig
    go_enter Tryd.func24, Tryd.ntmps24
    go_wp2_with fail
    go_ret
    exact far_yes _ _
  · have hbig' : ¬ (70 : Int) < m := by omega
    go_enter Tryd.func24, Tryd.ntmps24
    go_wp2_with fail
    go_loop [3, 4] (fun n i => ∃ k N : Nat, k ≤ m ∧ i = .int .i64 k ∧ n = .int .i64 N ∧ N ≤ 2100 * k ∧ Hid (∀ j (h : j < fs.length), j < k → (fs[j]).1.length ≤ 2100)) (fun _ i => m - (intOf i).toNat)
    case atStart => exact ⟨0, 0, Nat.zero_le _, rfl, rfl, by omega, Lib.hid (fun j h hj => by omega)⟩
    case round =>
      obtain ⟨k, N, hk, rfl, rfl, hN, HA⟩ := hrel
      by_cases hlt : k < m
      · have hkf : k < fs.length := by rw [Hm.out]; exact hlt
        obtain ⟨_, c0, _⟩ := HC.out ad rfl k hkf
        obtain ⟨s, hs⟩ : ∃ s, (fs[k]'hkf).1 = s := ⟨_, rfl⟩
        rw [hs] at c0
        have HS := Lib.hid hs
        clear hs
        by_cases h21 : 2100 < s.length
        · have h21' : (2100 : Int) < s.length := by omega
          clear h21
          go_wp2_with fail
          go_ret
          exact far_yes _ _
        · have h21' : ¬ (2100 : Int) < s.length := by omega
          have HA2 : Hid (∀ j (h : j < fs.length), j < k + 1 → (fs[j]).1.length ≤ 2100) := Lib.hid (fun j h hj => by
            by_cases e : j = k
            · subst e; rw [HS.out]; omega
            · exact HA.out j h (by omega))
          go_wp2_with fail
          go_round
          case rel => exact ⟨k + 1, N + s.length, by omega, by go_num, by go_num, by omega, HA2⟩
          case measure => simp [intOf]; omega
      · have HO : Hid (FarOk fs) := Lib.hid ⟨by rw [Hm.out]; omega, fun j h => HA.out j h (by have := Hm.out; omega)⟩
        go_wp2_with fail
        go_ret
        exact far_no HO.out _ _
end Go.Proofs.YtbjfpmklmhgbdaaDoor
