/- Contracts of tooLong and write. -/
import Derived.Test.YtbjfpmklmhgbdaaDoorWordsFar
namespace Go.Proofs.YtbjfpmklmhgbdaaDoor
open Go.RowKit
theorem addr_add (a : Addr) (i j : Nat) : (a.add i).add j = a.add (i + j) := by
  unfold Addr.add
  by_cases hi : i = 0 <;> by_cases hj : j = 0 <;> simp [hi, hj, Nat.add_assoc]
theorem addr_one (a : Addr) : a.add 1 = ⟨a.block, a.off + 1, none⟩ := rfl
def LongPost (fs : List FV) (w : World) (e : Ending) (w' : World) : Prop := e = .returned (.bool (W.longF fs)) ∧ Below w.heap.size w w'
theorem W.long_at {fs : List FV} {k : Nat} (h : k < fs.length) (h2 : 2000 < (fs[k]).1.length) : W.longF fs = true := by
  unfold W.longF
  rw [Bool.or_eq_true]
  exact Or.inl (List.any_eq_true.2 ⟨fs[k], List.getElem_mem h, decide_eq_true h2⟩)
theorem W.long_all {fs : List FV} (h : ∀ j (h : j < fs.length), (fs[j]).1.length ≤ 2000) : W.longF fs = decide (64 < (fs.length : Int)) := by
  unfold W.longF
  have : (fs.any fun f => decide (2000 < f.1.length)) = false := by
    rw [List.any_eq_false]
    intro f hf
    obtain ⟨j, hj, rfl⟩ := List.mem_iff_getElem.1 hf
    have := h j hj
    simp; omega
  rw [this, Bool.false_or, decide_eq_decide]
  omega
theorem long_yes {fs : List FV} {w w' : World} (h : W.longF fs = true) (hb : Below w.heap.size w w') : LongPost fs w (.returned (.bool true)) w' := ⟨by rw [h], hb⟩
theorem long_end {fs : List FV} {w w' : World} {m : Nat} (h : W.longF fs = decide (64 < (m : Int))) (hb : Below w.heap.size w w') : LongPost fs w (.returned (.bool (decide (64 < (m : Int))))) w' := ⟨by rw [h], hb⟩
set_option maxRecDepth 100000 in
set_option maxHeartbeats 1000000 in
theorem tooLong_in_some (ad : Addr) (c m : Nat) (fs : List FV) (w : World) (hb : FieldsIn w w.heap.size (some ad) c fs) (hm : fs.length = m) :
    Calls Tryd.prog 43 #[.slice (some ad) m c] w (LongPost fs w) := by
  have hlc := hb.le
  have hcm := hb.cap
  unfold maxLen at hcm
  have Hm := Lib.hid hm
  have HC := Lib.hid hb.cells
  have HB := Lib.hid hb
  rw [hm] at hlc
  clear hm hb
  go_enter Tryd.func43, Tryd.ntmps43
  go_wp2_with fail
  go_loopw [7] (fun i wr => ∃ k : Nat, k ≤ m ∧ i = .int .i64 k ∧ Below w.heap.size w wr ∧ Hid (∀ j (h : j < fs.length), j < k → (fs[j]).1.length ≤ 2000)) (fun i _ => m - (intOf i).toNat)
  case atStart => exact ⟨0, Nat.zero_le _, rfl, Below.refl _ _, Lib.hid (fun j h hj => by omega)⟩
  case round =>
    obtain ⟨k, hk, rfl, hbel, HA⟩ := hrel
    by_cases hlt : k < m
    · have hkf : k < fs.length := by rw [Hm.out]; exact hlt
      obtain ⟨hlb, c0, c1⟩ := (HB.out.below hbel).cells ad rfl k hkf
      obtain ⟨s, q, hs⟩ : ∃ s q, fs[k]'hkf = (s, q) := ⟨_, _, rfl⟩
      rw [hs] at c0 c1
      rw [← addr_add, addr_one] at c1
      have HS := Lib.hid hs
      clear hs
      by_cases h21 : 2000 < s.length
      · have h21' : (2000 : Int) < s.length := by omega
        have HL := Lib.hid (W.long_at hkf (by rw [HS.out]; exact h21))
        clear h21
        go_wp2_with fail
        go_ret
        exact long_yes HL.out (hbel.alloc hbel.size _)
      · have h21' : ¬ (2000 : Int) < s.length := by omega
        have HA2 : Hid (∀ j (h : j < fs.length), j < k + 1 → (fs[j]).1.length ≤ 2000) := Lib.hid (fun j h hj => by
          by_cases e : j = k
          · subst e; rw [HS.out]; show s.length ≤ 2000; omega
          · exact HA.out j h (by omega))
        go_wp2_with fail
        go_roundw
        case rel => exact ⟨k + 1, by omega, by go_num, hbel.alloc hbel.size _, HA2⟩
        case measure => simp [intOf]; omega
    · have HO := Lib.hid (W.long_all (fs := fs) (fun j h => HA.out j h (by have := Hm.out; omega)))
      rw [Hm.out] at HO
      go_wp2_with fail
      go_ret
      exact long_end HO.out hbel
theorem FieldsIn.nil_of {w : World} {B c : Nat} {fs : List FV} (h : FieldsIn w B none c fs) : fs = [] ∧ c = 0 := h.none_ rfl
set_option maxRecDepth 100000 in
theorem tooLong_in (A : Option Addr) (c m : Nat) (fs : List FV) (w : World) (hb : FieldsIn w w.heap.size A c fs) (hm : fs.length = m) :
    Calls Tryd.prog 43 #[.slice A m c] w (LongPost fs w) := by
  cases A with
  | some ad => exact tooLong_in_some ad c m fs w hb hm
  | none =>
    obtain ⟨rfl, rfl⟩ := hb.nil_of
    obtain rfl : m = 0 := hm.symm
    clear hb hm
    go_enter Tryd.func43, Tryd.ntmps43
    go_wp2_with fail
    refine wp_loop_rounds 1 ?_
    rw [rounds_succ]
    go_wp2_with fail
    go_ret
    exact ⟨rfl, Below.refl _ _⟩
set_option maxRecDepth 100000 in
theorem far_any (A : Option Addr) (c m : Nat) (fs : List FV) (w : World) (hb : FieldsIn w w.heap.size A c fs) (hm : fs.length = m) :
    Calls Tryd.prog 24 #[.slice A m c] w (FarPost fs w) := by
  cases A with
  | some ad => exact far_some ad c m fs w hb hm
  | none =>
    obtain ⟨rfl, rfl⟩ := hb.nil_of
    obtain rfl : m = 0 := hm.symm
    have HO : Hid (FarOk []) := Lib.hid ⟨by simp, fun j h => by simp at h⟩
    clear hb hm
    go_enter Tryd.func24, Tryd.ntmps24
    go_wp2_with fail
    refine wp_loop_rounds 1 ?_
    rw [rounds_succ]
    go_wp2_with fail
    go_ret
    exact far_no HO.out _ _
theorem W.write_quoted {s : List UInt8} : W.writeB (s, true) = 34 :: (W.escS s ++ [34]) := rfl
theorem W.write_bare {s : List UInt8} : W.writeB (s, false) = s := rfl
set_option maxRecDepth 100000 in
set_option maxHeartbeats 400000 in
theorem write_any (s : List UInt8) (q : Bool) (w : World) (hE : EscIn w) (hs : s.length ≤ 100000) :
    Calls Tryd.prog 46 #[.agg #[.string ⟨s.toArray⟩, .bool q]] w fun e w' => e = .returned (.string ⟨(W.writeB (s, q)).toArray⟩) ∧ Below w.heap.size w w' := by
  obtain ⟨wB, hwB⟩ : ∃ wB, wB = w.alloc (.cells #[.string ⟨s.toArray⟩, .bool q] 45) := ⟨_, rfl⟩
  have hba : Below w.heap.size w wB := by rw [hwB]; exact (Below.refl _ _).alloc (Nat.le_refl _) _
  have hE2 := hE.below hba
  have c0 : wB.cell? ⟨w.heap.size, 0, none⟩ = some (.string ⟨s.toArray⟩) := by rw [hwB]; simp
  have c1 : wB.cell? ⟨w.heap.size, 1, none⟩ = some (.bool q) := by rw [hwB]; simp
  have HW := Lib.hid hwB
  have HBA := Lib.hid hba
  clear hwB hba hE
  cases q with
  | true =>
    go_enter Tryd.func46, Tryd.ntmps46
    go_wp2_with fail
    rw [← HW.out]
    refine (Quote_any ⟨s.toArray⟩ wB hE2 (by show s.length ≤ _; omega)).mono ?_
    rintro e w1 ⟨rfl, hb1⟩
    go_wp2_with fail
    go_ret
    exact ⟨rfl, HBA.out.trans (hb1.mono HBA.out.size)⟩
  | false =>
    go_enter Tryd.func46, Tryd.ntmps46
    go_wp2_with fail
    rw [← HW.out]
    go_ret
    exact ⟨rfl, HBA.out⟩
end Go.Proofs.YtbjfpmklmhgbdaaDoor
