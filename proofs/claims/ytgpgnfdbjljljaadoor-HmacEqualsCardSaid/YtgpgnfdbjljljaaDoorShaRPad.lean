/- The contract of the reference's Pad. -/
import Derived.Test.YtgpgnfdbjljljaaDoorShaMeth
namespace Go.Proofs.YtgpgnfdbjljljaaDoor
open Go.RowKit
set_option maxHeartbeats 400000 in
theorem RPad_no (n : Int) (h : n < 0 ∨ 1152921504606846976 < n) (w : World) :
    Calls Tryd.prog 53 #[.int .i64 n] w fun e w' => e = .returned (.tuple #[.slice none 0 0, .int .i64 7]) ∧ w = w' := by
  by_cases h1 : n < 0
  · clear h
    go_enter Tryd.func53, Tryd.ntmps53
    go_wp2_with fail
    go_ret2
    exact ⟨rfl, rfl⟩
  · have h2 : 1152921504606846976 < n := by omega
    clear h
    go_enter Tryd.func53, Tryd.ntmps53
    go_wp2_with fail
    go_ret2
    exact ⟨rfl, rfl⟩
namespace S
/-- A padding of which the first bytes are written. -/
def padTo (n j : Nat) : List UInt8 := 128 :: List.replicate (zeros n) 0 ++ (be (n * 8) 8).take j
theorem padTo_len (n : Nat) {j : Nat} (h : j ≤ 8) : (padTo n j).length = zeros n + 1 + j := by
  unfold padTo
  simp [be_len]
  omega
theorem be_at (N : Nat) : ∀ (k j : Nat), j < k → (be N k)[j]? = some (UInt8.ofNat (N / 2 ^ (8 * (k - 1 - j))))
  | 0, _, h => by omega
  | k + 1, 0, _ => rfl
  | k + 1, j + 1, h => by
    rw [be, List.getElem?_cons_succ, be_at N k j (by omega), show k + 1 - 1 - (j + 1) = k - 1 - j by omega]
theorem padTo_next (n : Nat) {j : Nat} (h : j < 8) : padTo n (j + 1) = padTo n j ++ [UInt8.ofNat (n * 8 / 2 ^ (8 * (7 - j)))] := by
  unfold padTo
  have h1 : j < (be (n * 8) 8).length := by rw [be_len]; exact h
  have h2 := be_at (n * 8) 8 j h
  rw [List.getElem?_eq_getElem h1] at h2
  rw [List.take_succ_eq_append_getElem h1, Option.some.inj h2, List.append_assoc]
theorem padTo_all (n : Nat) : padTo n 8 = pad n := by
  unfold padTo pad
  rw [List.take_of_length_le (by rw [be_len]; exact Nat.le_refl 8)]
  rfl
theorem rep_snoc (k : Nat) : (128 :: List.replicate (k + 1) (0 : UInt8)) = (128 :: List.replicate k 0) ++ [0] := by
  rw [List.replicate_succ']; rfl
end S
set_option maxRecDepth 100000 in
set_option maxHeartbeats 2000000 in
theorem RPad_yes (n : Nat) (hn : n ≤ 1152921504606846976) (w : World) :
    Calls Tryd.prog 53 #[.int .i64 n] w fun e w' => ∃ v, e = .returned (.tuple #[v, .int .i64 0]) ∧ w'.ownsRow w.heap.size 5 1 v (S.pad n).length ((S.pad n).map S.byteV) ∧ Below w.heap.size w w' := by
  go_enter Tryd.func53, Tryd.ntmps53
  go_wp2_with fail
  have hn0 : (w.alloc (.cells #[.int .u8 128] 5)).ownsRow w.heap.size 5 1 (.slice (some ⟨w.heap.size, 0, none⟩) 1 1) (128 :: List.replicate 0 (0 : UInt8)).length ((128 :: List.replicate 0 (0 : UInt8)).map S.byteV) := World.ownsRow_lit (base := w.heap.size) (e := 5) (size := 1) w #[.int .u8 128] 1 (Nat.le_refl _) (by decide) rfl
  have hb0 : Below w.heap.size w (w.alloc (.cells #[.int .u8 128] 5)) := (Below.refl _ _).alloc (Nat.le_refl _) _
  have hzl : S.zeros n < 64 := Nat.mod_lt _ (by decide)
  have hz64 : (n + S.zeros n + 9) % 64 = 0 := by unfold S.zeros; omega
  have hzm : ∀ k, k < S.zeros n → (n + k + 9) % 64 ≠ 0 := by unfold S.zeros; intro k hk; omega
  have HZM := Lib.hid hzm
  have HZ64 := Lib.hid hz64
  clear hzm hz64
  go_loopw [4] (fun v wr => ∃ k : Nat, k ≤ S.zeros n ∧ (∃ A c, v = .slice A (k + 1) c) ∧ wr.ownsRow w.heap.size 5 1 v (128 :: List.replicate k (0 : UInt8)).length ((128 :: List.replicate k (0 : UInt8)).map S.byteV) ∧ Below w.heap.size w wr) (fun v _ => match v with | .slice _ l _ => 100 - l | _ => 0)
  case atStart => exact ⟨0, Nat.zero_le _, ⟨_, _, rfl⟩, hn0, hb0⟩
  case round =>
    clear hn0 hb0
    obtain ⟨k, hk, ⟨A, c, rfl⟩, hown, hbel⟩ := hrel
    have hkl : k < 64 := by omega
    by_cases hlt : k < S.zeros n
    · have ht : (((n : Int) + ((k : Int) + 1) + 8) % 64 == 0) = false := by rw [beq_eq_false_iff_ne]; have := HZM.out k hlt; omega
      have ht2 : (((n : Int) + ((k : Int) + 1) + 8) % 64 != 0) = true := by rw [bne_iff_ne]; have := HZM.out k hlt; omega
      clear ht
      go_wp2_with (at_builtin; refine push_byte w wr 0 rfl (.tmp 21) (.tmp 22) rfl w.heap.size _ _ rfl rfl hown (Nat.le_refl _) hbel (by omega) (by omega) (by simp; omega) ?_; intro v1 w1 hown1 hb1)
      rw [show UInt8.ofNat (0 : Int).toNat = 0 from rfl, ← S.rep_snoc] at hown1
      obtain ⟨A1, c1, rfl, _⟩ := S.own_slice hown1
      go_roundw
      case rel => exact ⟨k + 1, by omega, ⟨A1, c1, by simp⟩, hown1, hb1⟩
      case measure => simp; omega
    · obtain rfl : k = S.zeros n := by omega
      have ht : (((n : Int) + ((S.zeros n : Int) + 1) + 8) % 64 == 0) = true := by rw [beq_iff_eq]; have := HZ64.out; omega
      have ht2 : (((n : Int) + ((S.zeros n : Int) + 1) + 8) % 64 != 0) = false := by rw [bne_eq_false_iff_eq]; have := HZ64.out; omega
      clear hlt hk
      go_wp2_with fail
      have hown0 : wr.ownsRow w.heap.size 5 1 (.slice A (S.zeros n + 1) c) (S.padTo n 0).length ((S.padTo n 0).map S.byteV) := by
        rw [show S.padTo n 0 = 128 :: List.replicate (S.zeros n) 0 by simp [S.padTo]]; exact hown
      clear hown ht ht2
      go_loopw [4, 6] (fun v i wr => ∃ j : Nat, j ≤ 8 ∧ i = .int .i64 (7 - (j : Int)) ∧ wr.ownsRow w.heap.size 5 1 v (S.padTo n j).length ((S.padTo n j).map S.byteV) ∧ Below w.heap.size w wr) (fun _ i _ => (intOf i + 1).toNat)
      case atStart => exact ⟨0, by omega, rfl, hown0, hbel⟩
      case round =>
        clear hown0 hbel
        obtain ⟨j, hj, rfl, hown, hbel⟩ := hrel
        by_cases hlt : j < 8
        · have hl := S.padTo_len n hj
          have HL := Lib.hid (show (S.padTo n j).length ≤ 1000000 by omega)
          have hX := S.padTo_next n hlt
          obtain ⟨j1, hj1⟩ : ∃ j1, j1 = j + 1 := ⟨_, rfl⟩
          rw [← hj1] at hX
          have HX := Lib.hid hX
          have HJ := Lib.hid hj1
          clear hX hj1
          have hN : n * 8 < 18446744073709551616 := by omega
          clear hl hj
          generalize S.padTo n j = xs at hown HL HX
          obtain rfl | rfl | rfl | rfl | rfl | rfl | rfl | rfl : j = 0 ∨ j = 1 ∨ j = 2 ∨ j = 3 ∨ j = 4 ∨ j = 5 ∨ j = 6 ∨ j = 7 := by omega
          all_goals
            go_wp2_with (at_builtin; refine push_byte w wr _ rfl (.tmp 31) (.tmp 38) rfl w.heap.size _ _ rfl rfl hown (Nat.le_refl _) hbel (by omega) (by omega) HL.out ?_; intro v1 w1 hown1 hb1)
            go_roundw
            case rel =>
              have hJ := HJ.out
              refine ⟨j1, by omega, congrArg _ (by omega), ?_, hb1⟩
              rw [HX.out]
              refine (congrArg (fun b => w1.ownsRow w.heap.size 5 1 v1 (xs ++ [b]).length ((xs ++ [b]).map S.byteV)) (ofNat_eq ?_)).mp hown1
              omega
            case measure => simp [intOf]
        · obtain rfl : j = 8 := by omega
          rw [S.padTo_all] at hown
          obtain ⟨A1, c1, rfl, _⟩ := S.own_slice hown
          go_wp2_with fail
          go_ret2
          exact ⟨_, rfl, hown, hbel⟩
end Go.Proofs.YtgpgnfdbjljljaaDoor
