/- The walk of IntsOrder. -/
import Derived.Test.YthopdpgjfmpgkaaIntsLaw2
import Derived.Test.YthopdpgjfmpgkaaIntsVar
import Derived.Deep.AppendLies
import Derived.WalkLawsBesides
namespace Go.Proofs.Ythopdpgjfmpgkaa
open Go.RowKit
namespace I
theorem be_mod (N : Nat) : ∀ k m, k ≤ m → be (N % 2 ^ (8 * m)) k = be N k
  | 0, _, _ => rfl
  | k + 1, m, h => by
    simp only [be]
    rw [be_mod N k m (by omega)]
    congr 1
    apply ofNat_eq
    have e : 2 ^ (8 * m) = 2 ^ (8 * k) * 2 ^ (8 * (m - k)) := by rw [← Nat.pow_add]; congr 1; omega
    rw [e, Nat.mod_mul_right_div_self]
    have h256 : (2 : Nat) ^ (8 * (m - k)) = 256 * 2 ^ (8 * (m - k - 1)) := by
      have : (256 : Nat) = 2 ^ 8 := by decide
      rw [this, ← Nat.pow_add]; congr 1; omega
    rw [h256, Nat.mod_mul_right_mod]
theorem ofNat_lt {a b : Nat} (ha : a < 256) (hb : b < 256) : (UInt8.ofNat a < UInt8.ofNat b) ↔ a < b := by
  rw [UInt8.lt_iff_toNat_lt, UInt8.toNat_ofNat', UInt8.toNat_ofNat']
  omega
theorem ofNat_inj {a b : Nat} (ha : a < 256) (hb : b < 256) : (UInt8.ofNat a = UInt8.ofNat b) ↔ a = b := by
  constructor
  · intro h
    have := congrArg UInt8.toNat h
    rw [UInt8.toNat_ofNat', UInt8.toNat_ofNat'] at this
    omega
  · intro h; rw [h]
theorem be_less : ∀ (k a b : Nat), a < 2 ^ (8 * k) → b < 2 ^ (8 * k) → Op.bytesLess (be a k) (be b k) = decide (a < b)
  | 0, a, b, ha, hb => by
    simp at ha hb
    subst ha hb
    rfl
  | k + 1, a, b, ha, hb => by
    have hp := pow_pos (8 * k)
    have e : 2 ^ (8 * (k + 1)) = 2 ^ (8 * k) * 256 := by rw [Nat.mul_add, Nat.pow_add]
    rw [e] at ha hb
    have h1 : a / 2 ^ (8 * k) < 256 := Nat.div_lt_of_lt_mul ha
    have h2 : b / 2 ^ (8 * k) < 256 := Nat.div_lt_of_lt_mul hb
    have ih := be_less k (a % 2 ^ (8 * k)) (b % 2 ^ (8 * k)) (Nat.mod_lt _ hp) (Nat.mod_lt _ hp)
    rw [be_mod a k k (Nat.le_refl _), be_mod b k k (Nat.le_refl _)] at ih
    simp only [be, Op.bytesLess, ih]
    have hda := Nat.div_add_mod a (2 ^ (8 * k))
    have hdb := Nat.div_add_mod b (2 ^ (8 * k))
    have hma := Nat.mod_lt a hp
    have hmb := Nat.mod_lt b hp
    generalize 2 ^ (8 * k) = P at *
    generalize a / P = x at *
    generalize b / P = y at *
    generalize a % P = la at *
    generalize b % P = lb at *
    have hxy : x < y ∨ x = y ∨ y < x := by omega
    rw [Bool.eq_iff_iff]
    simp only [Bool.or_eq_true, Bool.and_eq_true, decide_eq_true_eq, beq_iff_eq, ofNat_lt h1 h2, ofNat_inj h1 h2]
    rcases hxy with h | h | h
    · have := Nat.mul_le_mul_left P (show x + 1 ≤ y by omega)
      rw [Nat.mul_add] at this
      omega
    · subst h; omega
    · have := Nat.mul_le_mul_left P (show y + 1 ≤ x by omega)
      rw [Nat.mul_add] at this
      omega
theorem vb_pos (N : Nat) : 1 ≤ (vb N).length := by
  by_cases h : N < 128
  · rw [vb_small h]; simp
  · rw [vb_big h]; simp
theorem vb_mono (a : Nat) : ∀ b, a ≤ b → (vb a).length ≤ (vb b).length := by
  induction a using Nat.strongRecOn with
  | _ a ih =>
    intro b h
    by_cases ha : a < 128
    · rw [vb_small ha]; exact vb_pos b
    · have hb : ¬ b < 128 := by omega
      rw [vb_big ha, vb_big hb, List.length_cons, List.length_cons]
      have := ih (a / 128) (by omega) (b / 128) (by omega)
      omega
end I
/-- An owned row that is not empty, written out. -/
theorem own_form {w : World} {B : Nat} {v : Value} {l : List UInt8} (h : w.ownsRow B 5 1 v l.length (l.map byteV)) (hl : 1 ≤ l.length) : ∃ (A : Option Addr) (c : Nat), v = .slice A l.length c ∧ l.length ≤ c ∧ c ≤ 9223372036854775807 := by
  rcases h.2 with ⟨_, h2⟩ | ⟨g, cap, cur, h1, _, _, h3, h4, _⟩
  · omega
  · exact ⟨_, _, h1, h3, by unfold maxLen at h4; omega⟩
namespace I
theorem len_cases (a b : Nat) : (vb b).length = (vb a).length ∨ ((vb a).length < (vb b).length ∧ a < b) ∨ ((vb b).length < (vb a).length ∧ b < a) := by
  have h1 := vb_mono a b
  have h2 := vb_mono b a
  omega
end I
set_option maxRecDepth 100000 in
set_option maxHeartbeats 4000000 in
theorem IntsOrder_walk (a b : Nat) (x : Int) (ha : a < 18446744073709551616) (hb : b < 18446744073709551616) (hx0 : 0 ≤ x) (hx1 : x ≤ 255) (w : World) :
    Calls Try.prog 9 #[.int .u64 a, .int .u64 b, .int .u8 x] w fun e w' => e = .returned (.bool true) ∧ Below w.heap.size w w' := by
  obtain ⟨k, hk⟩ : ∃ k : Nat, 1 + x % 8 = k := ⟨(1 + x % 8).toNat, by omega⟩
  have hk1 : 1 ≤ k := by omega
  have hk8 : k ≤ 8 := by omega
  have HK := Lib.hid hk
  have hnil := fun W : World => BytesIn.nil_ W W.heap.size
  clear hk
  go_enter Try.func9, Try.ntmps9
  go_wp2_with fail
  rw [HK.out]
  refine (Put_any none 0 [] a k _ (hnil _) (by simp)).mono ?_
  rintro e w1 ⟨v1, rfl, hown1, hb1⟩
  go_wp2_with fail
  refine (Put_any none 0 [] b k _ (hnil _) (by simp)).mono ?_
  rintro e w2 ⟨v2, rfl, hown2, hb2⟩
  have hown1b := own_below hown1 hb2
  have HB := Lib.hid (hb1.trans (hb2.mono hb1.size))
  clear hb1 hb2 hown1
  have hways : (I.putOk a k = true ∧ I.putOk b k = true) ∨ (I.putOk a k = true ∧ I.putOk b k = false) ∨ I.putOk a k = false := by
    cases I.putOk a k <;> cases I.putOk b k <;> simp
  rcases hways with ⟨ha1, hb1⟩ | ⟨ha1, hb1⟩ | ha1
  · have hla : a < 2 ^ (8 * k) := by rw [I.putOk_nat hk1 hk8] at ha1; exact of_decide_eq_true ha1
    have hlb : b < 2 ^ (8 * k) := by rw [I.putOk_nat hk1 hk8] at hb1; exact of_decide_eq_true hb1
    have hless := I.be_less k a b hla hlb
    rw [show I.errV (I.putOk a k) = 0 by rw [ha1]; rfl, show I.errV (I.putOk b k) = 0 by rw [hb1]; rfl]
    rw [I.putL_yes ha1, List.nil_append] at hown1b
    rw [I.putL_yes hb1, List.nil_append] at hown2
    obtain ⟨A1, c1, e1, hc1, hc1'⟩ := own_form hown1b (by rw [I.be_len]; exact hk1)
    obtain ⟨A2, c2, e2, hc2, hc2'⟩ := own_form hown2 (by rw [I.be_len]; exact hk1)
    have hcv1 := conv_own hown1b
    have hcv2 := conv_own hown2
    rw [I.be_len] at e1 e2 hc1 hc2
    subst e1 e2
    clear hown1b hown2 hla hlb ha1 hb1
    go_wp2_with fail
    refine (PutVar_any none 0 [] a _ (hnil _) (by simp) ha).mono ?_
    rintro e w3 ⟨v3, rfl, hown3, hb3⟩
    have HB3 := Lib.hid (HB.out.trans (hb3.mono HB.out.size))
    clear hcv1 hcv2 hless
    go_wp2_with fail
    refine (PutVar_any none 0 [] b _ (hnil _) (by simp) hb).mono ?_
    rintro e w4 ⟨v4, rfl, hown4, hb4⟩
    have HB4 := Lib.hid (HB3.out.trans (hb4.mono HB3.out.size))
    rw [List.nil_append] at hown3 hown4
    obtain ⟨A3, c3, rfl, hc3, hc3'⟩ := own_form hown3 (I.vb_pos a)
    obtain ⟨A4, c4, rfl, hc4, hc4'⟩ := own_form hown4 (I.vb_pos b)
    have hp1 := I.vb_pos a
    have hp2 := I.vb_len10 ha
    have hq1 := I.vb_pos b
    have hcs := I.len_cases a b
    generalize (I.vb a).length = P at *
    generalize (I.vb b).length = Q at *
    clear hown3 hown4 hb3 hb4
    rcases hcs with rfl | ⟨h1, h2⟩ | ⟨h1, h2⟩
    · go_wp2_with fail
      refine (awake_any _).mono ?_
      rintro e w5 ⟨rfl, hb5⟩
      go_wp2_with fail
      go_ret
      exact ⟨rfl, HB4.out.trans (hb5.mono HB4.out.size)⟩
    · have h3 : ¬ (Q : Int) ≤ P := by omega
      have h4 : (a : Int) < b := by omega
      go_wp2_with fail
      refine (awake_any _).mono ?_
      rintro e w5 ⟨rfl, hb5⟩
      go_wp2_with fail
      go_ret
      exact ⟨rfl, HB4.out.trans (hb5.mono HB4.out.size)⟩
    · have h3 : ¬ (P : Int) ≤ Q := by omega
      have h4 : (b : Int) < a := by omega
      go_wp2_with fail
      refine (awake_any _).mono ?_
      rintro e w5 ⟨rfl, hb5⟩
      go_wp2_with fail
      go_ret
      exact ⟨rfl, HB4.out.trans (hb5.mono HB4.out.size)⟩
  all_goals
    first
      | rw [show I.errV (I.putOk a k) = 0 by rw [ha1]; rfl, show I.errV (I.putOk b k) = 7 by rw [hb1]; rfl]
      | rw [show I.errV (I.putOk a k) = 7 by rw [ha1]; rfl]
    clear hown1b hown2
    go_wp2_with fail
    refine (PutVar_any none 0 [] a _ (hnil _) (by simp) ha).mono ?_
    rintro e w3 ⟨v3, rfl, hown3, hb3⟩
    have HB3 := Lib.hid (HB.out.trans (hb3.mono HB.out.size))
    go_wp2_with fail
    refine (PutVar_any none 0 [] b _ (hnil _) (by simp) hb).mono ?_
    rintro e w4 ⟨v4, rfl, hown4, hb4⟩
    have HB4 := Lib.hid (HB3.out.trans (hb4.mono HB3.out.size))
    rw [List.nil_append] at hown3 hown4
    obtain ⟨A3, c3, rfl, hc3, hc3'⟩ := own_form hown3 (I.vb_pos a)
    obtain ⟨A4, c4, rfl, hc4, hc4'⟩ := own_form hown4 (I.vb_pos b)
    have hp1 := I.vb_pos a
    have hp2 := I.vb_len10 ha
    have hq1 := I.vb_pos b
    have hcs := I.len_cases a b
    generalize (I.vb a).length = P at *
    generalize (I.vb b).length = Q at *
    clear hown3 hown4 hb3 hb4
    rcases hcs with rfl | ⟨h1, h2⟩ | ⟨h1, h2⟩
    · go_wp2_with fail
      refine (awake_any _).mono ?_
      rintro e w5 ⟨rfl, hb5⟩
      go_wp2_with fail
      go_ret
      exact ⟨rfl, HB4.out.trans (hb5.mono HB4.out.size)⟩
    · have h3 : ¬ (Q : Int) ≤ P := by omega
      have h4 : (a : Int) < b := by omega
      go_wp2_with fail
      refine (awake_any _).mono ?_
      rintro e w5 ⟨rfl, hb5⟩
      go_wp2_with fail
      go_ret
      exact ⟨rfl, HB4.out.trans (hb5.mono HB4.out.size)⟩
    · have h3 : ¬ (P : Int) ≤ Q := by omega
      have h4 : (b : Int) < a := by omega
      go_wp2_with fail
      refine (awake_any _).mono ?_
      rintro e w5 ⟨rfl, hb5⟩
      go_wp2_with fail
      go_ret
      exact ⟨rfl, HB4.out.trans (hb5.mono HB4.out.size)⟩
end Go.Proofs.Ythopdpgjfmpgkaa
