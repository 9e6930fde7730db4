/- The contract of package sha's Pad. -/
import Derived.Test.YtgpgnfdbjljljaaDoorShaHex
namespace Go.Proofs.YtgpgnfdbjljljaaDoor
open Go.RowKit
namespace S
theorem ret_vi {v : Value} {a b : Int} (h : a = b) : Ending.returned (.tuple #[v, .int .i64 a]) = .returned (.tuple #[v, .int .i64 b]) := by rw [h]
theorem val_u64 {a b : Int} (h : a = b) : Value.int .u64 a = .int .u64 b := by rw [h]
theorem be_high (B : Nat) : ∀ (k j : Nat), j ≤ k → B < 2 ^ (8 * j) → be B k = List.replicate (k - j) 0 ++ be B j
  | 0, j, h, _ => by obtain rfl : j = 0 := by omega
                     rfl
  | k + 1, j, h, hB => by
    by_cases hj : j = k + 1
    · subst hj; simp
    · have e : k + 1 - j = (k - j) + 1 := by omega
      have hB' : B < 2 ^ (8 * k) := Nat.lt_of_lt_of_le hB (Nat.pow_le_pow_right (by decide) (by omega))
      rw [e, List.replicate_succ, be, be_high B k j (by omega) hB, Nat.div_eq_of_lt hB']
      rfl
/-- A padding of which the last bytes are written. -/
def padAt (z B j : Nat) : List UInt8 := 128 :: (List.replicate (z + (8 - j)) 0 ++ be B j)
theorem padAt_len {z B j : Nat} (h : j ≤ 8) : (padAt z B j).length = z + 9 := by
  unfold padAt
  simp [be_len]
  omega
theorem padAt_zero {z B j : Nat} (h : j < 8) : ((padAt z B j).map byteV)[z + 8 - j]? = some (.int .u8 0) := by
  unfold padAt
  rw [List.getElem?_map, show z + 8 - j = (z + (7 - j)) + 1 by omega, List.getElem?_cons_succ, List.getElem?_append_left (by simp; omega), List.getElem?_replicate, if_pos (by omega)]
  rfl
theorem padAt_set {z B j M : Nat} (h : j < 8) (hM : M = B / 2 ^ (8 * j)) : (padAt z B j).set (z + 8 - j) (UInt8.ofNat M) = padAt z B (j + 1) := by
  unfold padAt
  have e1 : z + 8 - j = (z + (7 - j)) + 1 := by omega
  have e2 : z + (8 - j) = (z + (7 - j)) + 1 := by omega
  have e3 : z + (8 - (j + 1)) = z + (7 - j) := by omega
  rw [e1, List.set_cons_succ, e2, e3, List.replicate_succ', List.append_assoc, List.set_append_right _ _ (by simp), List.length_replicate, Nat.sub_self, be, hM]
  rfl
theorem padAt_next {B j M : Nat} (hM : M = B / 2 ^ (8 * j)) : M / 256 = B / 2 ^ (8 * (j + 1)) := by
  rw [hM, Nat.mul_add, Nat.pow_add, Nat.div_div_eq_div_mul]
theorem padAt_end {z B j : Nat} (h : j ≤ 8) (h0 : 0 = B / 2 ^ (8 * j)) : padAt z B j = 128 :: (List.replicate z 0 ++ be B 8) := by
  have hB : B < 2 ^ (8 * j) := (Nat.div_eq_zero_iff_lt (Nat.pow_pos (by decide))).1 h0.symm
  unfold padAt
  rw [be_high B 8 j h hB, ← List.append_assoc, List.replicate_append_replicate]
theorem byte_of (M : Nat) : (Value.int .u8 ((M : Int) % 256)) = byteV (UInt8.ofNat M) := by
  unfold byteV
  rw [UInt8.toNat_ofNat']
  rfl
end S
set_option maxHeartbeats 400000 in
theorem Pad_no (n : Int) (h : n < 0 ∨ 1152921504606846976 < n) (w : World) :
    Calls Tryd.prog 46 #[.int .i64 n] w fun e w' => e = .returned (.tuple #[.slice none 0 0, .int .i64 7]) ∧ w = w' := by
  by_cases h1 : n < 0
  · clear h
    go_enter Tryd.func46, Tryd.ntmps46
    go_wp2_with fail
    go_ret2
    exact ⟨rfl, rfl⟩
  · have h2 : 1152921504606846976 < n := by omega
    clear h
    go_enter Tryd.func46, Tryd.ntmps46
    go_wp2_with fail
    go_ret2
    exact ⟨rfl, rfl⟩
set_option maxRecDepth 100000 in
set_option maxHeartbeats 1000000 in
theorem Pad_yes (n : Nat) (hn : n ≤ 1152921504606846976) (w : World) :
    Calls Tryd.prog 46 #[.int .i64 n] w fun e w' => ∃ v, e = .returned (.tuple #[v, .int .i64 0]) ∧ w'.ownsRow w.heap.size 5 1 v (S.pad n).length ((S.pad n).map S.byteV) ∧ Below w.heap.size w w' := by
  obtain ⟨i0, hi, hz0, hz1, hz2⟩ := info_parts info_u8
  go_enter Tryd.func46, Tryd.ntmps46
  have HZ := Lib.hid (show (1 + -(((n : Int) + 1 + 8) % 64) % 64 + 8) = ((S.zeros n + 9 : Nat) : Int) by unfold S.zeros; omega)
  have HP := Lib.hid (show S.pad n = 128 :: (List.replicate (S.zeros n) 0 ++ S.be (n * 8) 8) from rfl)
  have hzl : S.zeros n < 64 := Nat.mod_lt _ (by decide)
  generalize S.zeros n = z at HP HZ hzl ⊢
  go_wp2_with (at_make; refine wpList_make_full _ rfl _ _ 33 rfl w.heap.size 5 i0 (.int .u8 0) 1 Tryd.underlying33 hi hz0 hz1 .i64 .i64 _ _ (z + 9) rfl rfl HZ.out HZ.out (by rw [hz2]; omega) (by unfold maxLen; omega) (Nat.le_refl _) ?_; intro w0 hown0 hgrow0; have hb0 : Below w.heap.size w w0 := (Below.refl _ _).grown hgrow0 (Nat.le_refl _) (fun k hk => by cases hk); have hown1 : w0.ownsRow w.heap.size 5 1 (.slice (some ⟨w.heap.size, 0, none⟩) (z + 9) (z + 9)) (z + 9) ((List.replicate (z + 9) (0 : UInt8)).map S.byteV) := (by rw [show (List.replicate (z + 9) (0 : UInt8)).map S.byteV = (madeCells (Value.int .u8 0).cells ((z + 9) * 1)).toList from (by rw [Nat.mul_one, show (Value.int .u8 0).cells = #[.int .u8 0] from rfl, toList_madeCells_one]; simp [S.byteV])]; exact hown0); have hcell := (hown1.cellAt 0 (by omega)).trans (show ((List.replicate (z + 9) (0 : UInt8)).map S.byteV)[0]? = some (.int .u8 0) from rfl); have hfr := hown1.frozenAt 0)
  have hst0 := (hown1.stored 0 (.int .u8 128))
  obtain ⟨hst, hgr⟩ := hst0
  have hown2 : (w0.setCell ⟨w.heap.size, 0, none⟩ (.int .u8 128)).ownsRow w.heap.size 5 1 (.slice (some ⟨w.heap.size, 0, none⟩) (z + 9) (z + 9)) (z + 9) ((S.padAt z (n * 8) 0).map S.byteV) := by
    have e : ((List.replicate (z + 9) (0 : UInt8)).map S.byteV).set 0 (.int .u8 128) = (S.padAt z (n * 8) 0).map S.byteV := by
      unfold S.padAt
      rw [List.replicate_succ]
      simp [S.be, S.byteV]
    rw [← e]; exact hst
  have hb2 := hb0.setCell (p := ⟨w.heap.size, 0, none⟩) (Nat.le_refl _) (.int .u8 128)
  have HG : Hid (w.heap.size < w0.heap.size) := Lib.hid ((hown0.lt w.heap.size rfl).2)
  clear hst hgr hown0 hown1 hgrow0 hb0 hcell hfr
  go_loopw [6, 7] (fun m i wr => ∃ j M : Nat, j ≤ 8 ∧ i = .int .i64 ((z : Int) + 8 - j) ∧ m = .int .u64 M ∧ M < 18446744073709551616 ∧ Hid (M = (n * 8) / 2 ^ (8 * j)) ∧ wr.ownsRow w.heap.size 5 1 (.slice (some ⟨w.heap.size, 0, none⟩) (z + 9) (z + 9)) (z + 9) ((S.padAt z (n * 8) j).map S.byteV) ∧ Below w.heap.size w wr) (fun _ i _ => (intOf i + 1).toNat)
  case atStart => exact ⟨0, n * 8, by omega, congrArg _ (by omega), congrArg _ (by omega), by omega, Lib.hid (by simp), hown2, hb2⟩
  case round =>
    clear hown2 hb2
    obtain ⟨j, M, hj, rfl, rfl, hM, HM, hown, hbel⟩ := hrel
    by_cases hlt : 0 < M
    · have hj8 : j < 8 := by
        by_cases h8 : j = 8
        · subst h8; have := HM.out; omega
        · omega
      have hcell := (hown.cellAt (z + 8 - j) (by omega)).trans (S.padAt_zero hj8)
      have hfr := hown.frozenAt (z + 8 - j)
      obtain ⟨hst, hgr⟩ := hown.stored (z + 8 - j) (.int .u8 ((M : Int) % 256))
      rw [S.byte_of, ← List.map_set, S.padAt_set hj8 HM.out, ← S.byte_of] at hst
      have HST := Lib.hid hst
      have HB := Lib.hid (hbel.grown hgr hbel.size (fun g hg => by injection hg with hg; omega))
      have HN := Lib.hid (S.padAt_next HM.out)
      obtain ⟨p, HPp⟩ : ∃ p : Nat, Hid (p = z + 8 - j) := ⟨_, Lib.hid rfl⟩
      rw [← HPp.out] at hcell hfr HST HB
      have HQ := Lib.hid (show (z : Int) + 8 - j = (p : Int) by rw [HPp.out]; omega)
      have hpz : p < z + 9 := by rw [HPp.out]; omega
      rw [HQ.out]
      clear hst hgr hown hbel
      go_wp2_with fail
      go_roundw
      case rel => exact ⟨j + 1, M / 256, by omega, congrArg _ (by have := HQ.out; omega), S.val_u64 (by omega), by omega, HN, HST.out, HB.out⟩
      case measure => simp [intOf]
    · obtain rfl : M = 0 := by omega
      have HE := Lib.hid (S.padAt_end (z := z) hj HM.out)
      rw [HE.out, ← HP.out] at hown
      have hlen : (S.pad n).length = z + 9 := by rw [HP.out]; simp [be_len]
      have HL := Lib.hid hlen
      have HB := Lib.hid hbel
      clear hlen hbel hlt
      go_wp2_with fail
      go_ret2
      exact ⟨_, rfl, by rw [HL.out]; exact hown, HB.out⟩
end Go.Proofs.YtgpgnfdbjljljaaDoor
