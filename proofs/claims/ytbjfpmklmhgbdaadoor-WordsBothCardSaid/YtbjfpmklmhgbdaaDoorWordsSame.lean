/- The contract of Same of the reference. -/
import Derived.Test.YtbjfpmklmhgbdaaDoorWordsList2
namespace Go.Proofs.YtbjfpmklmhgbdaaDoor
open Go.RowKit

set_option maxRecDepth 100000 in
set_option maxHeartbeats 4000000 in
theorem RSame_eq (B1 B2 : Nat) (v1 v2 : Value) (fs : List FV) (w : World) (hv1 : w.ownsRow B1 45 2 v1 fs.length (fCells fs)) (hv2 : w.ownsRow B2 45 2 v2 fs.length (fCells fs)) (h0 : 0 < fs.length) (hlen : fs.length ≤ 100) :
    Calls Tryd.prog 23 #[v1, v2] w fun e w' => e = .returned (.bool true) ∧ Below w.heap.size w w' := by
  obtain ⟨g1, c1, rfl, hg1, hs1⟩ := hv1.form h0
  obtain ⟨g2, c2, rfl, hg2, hs2⟩ := hv2.form h0
  have H1 := Lib.hid hv1.cellAt
  have H2 := Lib.hid hv2.cellAt
  clear hv1 hv2
  obtain ⟨m, hm⟩ : ∃ m, fs.length = m := ⟨_, rfl⟩
  have Hm := Lib.hid hm
  rw [hm] at hlen h0 ⊢
  clear hm
  go_enter Tryd.func23, Tryd.ntmps23
  go_wp2_with fail
  go_loopw [5] (fun c wr => ∃ k : Nat, k ≤ m ∧ c = .int .i64 k ∧ Below w.heap.size w wr) (fun c _ => m - (intOf c).toNat)
  case atStart => exact ⟨0, Nat.zero_le _, rfl, Below.refl _ _⟩
  case round =>
    obtain ⟨k, hk, rfl, hbel⟩ := hrel
    by_cases hlt : k < m
    · have hkf : k < fs.length := by rw [Hm.out]; exact hlt
      obtain ⟨s, q, hsq⟩ : ∃ s q, fs[k]'hkf = (s, q) := ⟨_, _, rfl⟩
      have a1 : wr.cell? ⟨g1, k * 2, none⟩ = some (.string ⟨s.toArray⟩) := by
        rw [hbel.cell (p := ⟨g1, k * 2, none⟩) hs1, H1.out _ (by rw [Hm.out]; omega), Nat.mul_comm k 2, (fCells_at fs k hkf).1, hsq]
      have a2 : wr.cell? ⟨g1, k * 2 + 1, none⟩ = some (.bool q) := by
        rw [hbel.cell (p := ⟨g1, k * 2 + 1, none⟩) hs1, H1.out _ (by rw [Hm.out]; omega), Nat.mul_comm k 2, (fCells_at fs k hkf).2, hsq]
      have b1 : wr.cell? ⟨g2, k * 2, none⟩ = some (.string ⟨s.toArray⟩) := by
        rw [hbel.cell (p := ⟨g2, k * 2, none⟩) hs2, H2.out _ (by rw [Hm.out]; omega), Nat.mul_comm k 2, (fCells_at fs k hkf).1, hsq]
      have b2 : wr.cell? ⟨g2, k * 2 + 1, none⟩ = some (.bool q) := by
        rw [hbel.cell (p := ⟨g2, k * 2 + 1, none⟩) hs2, H2.out _ (by rw [Hm.out]; omega), Nat.mul_comm k 2, (fCells_at fs k hkf).2, hsq]
      clear hsq
      go_wp2_with fail
      go_quiet (fail)
      go_wp2_with fail
      go_roundw
      case rel => exact ⟨k + 1, by omega, by go_num, below_drewN hbel _⟩
      case measure => simp [intOf]; omega
    · go_wp2_with fail
      go_ret
      exact ⟨rfl, hbel⟩
end Go.Proofs.YtbjfpmklmhgbdaaDoor
