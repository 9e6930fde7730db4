/- The contract of the reference's Join. -/
import Derived.Test.YtbjfpmklmhgbdaaDoorWordsJn2
namespace Go.Proofs.YtbjfpmklmhgbdaaDoor
open Go.RowKit
theorem str_first {O Y L : List UInt8} (h : O ++ Y = L) : Value.string ((⟨O.toArray⟩ : ByteArray) ++ ⟨Y.toArray⟩) = .string ⟨L.toArray⟩ := by rw [mk_append, h]
theorem str_next {O Y L : List UInt8} (h : O ++ [32] ++ Y = L) : Value.string ((⟨O.toArray⟩ : ByteArray) ++ ⟨#[32]⟩ ++ ⟨Y.toArray⟩) = .string ⟨L.toArray⟩ := by
  have e : (⟨#[32]⟩ : ByteArray) = ⟨[32].toArray⟩ := rfl
  rw [e, mk_append, mk_append, h]
theorem W.line_first {fs : List FV} (h : 0 < fs.length) : W.lineB (fs.take 0) ++ W.writeB fs[0] = W.lineB (fs.take (0 + 1)) := by rw [W.line_snoc h, if_pos rfl, W.line_none]; rfl
theorem W.line_next {fs : List FV} {k : Nat} (h : k < fs.length) (h0 : k ≠ 0) : W.lineB (fs.take k) ++ [32] ++ W.writeB fs[k] = W.lineB (fs.take (k + 1)) := by rw [W.line_snoc h, if_neg h0]
set_option maxRecDepth 100000 in
set_option maxHeartbeats 4000000 in
theorem RJoin_some (ad : Addr) (c m : Nat) (fs : List FV) (w : World) (hb : FieldsIn w w.heap.size (some ad) c fs) (hm : fs.length = m) :
    Calls Tryd.prog 26 #[.slice (some ad) m c] w (JoinPost fs w) := by
  have hlc := hb.le
  have hcm := hb.cap
  unfold maxLen at hcm
  have Hm := Lib.hid hm
  have HB := Lib.hid hb
  rw [hm] at hlc
  clear hm hb
  by_cases h64 : 64 < m
  · have h64' : (64 : Int) < m := by omega
    have HL : Hid (W.longF fs = true) := Lib.hid (by
      unfold W.longF; rw [Bool.or_eq_true]; exact Or.inr (decide_eq_true (by rw [Hm.out]; exact h64)))
    clear h64
    go_enter Tryd.func26, Tryd.ntmps26
    go_wp2_with fail
    go_ret2
    exact join_long HL.out (Below.refl _ _)
  · have h64' : ¬ (64 : Int) < m := by omega
    go_enter Tryd.func26, Tryd.ntmps26
    go_wp2_with fail
    go_loop [4] (fun i => ∃ k : Nat, k ≤ m ∧ i = .int .i64 k ∧ Hid (∀ j (h : j < fs.length), j < k → (fs[j]).1.length ≤ 2000)) (fun i => m - (intOf i).toNat)
    case atStart => exact ⟨0, Nat.zero_le _, rfl, Lib.hid (fun j h hj => by omega)⟩
    case round =>
      obtain ⟨k, hk, rfl, HA⟩ := hrel
      by_cases hlt : k < m
      · have hkf : k < fs.length := by rw [Hm.out]; exact hlt
        obtain ⟨_, c0, _⟩ := HB.out.cells ad rfl k hkf
        obtain ⟨s, hs⟩ : ∃ s, (fs[k]'hkf).1 = s := ⟨_, rfl⟩
        rw [hs] at c0
        have HS := Lib.hid hs
        clear hs
        by_cases h21 : 2000 < s.length
        · have h21' : (2000 : Int) < s.length := by omega
          have HL := Lib.hid (W.long_at hkf (by rw [HS.out]; exact h21))
          clear h21
          go_wp2_with fail
          go_ret2
          exact join_long HL.out (Below.refl _ _)
        · have h21' : ¬ (2000 : Int) < s.length := by omega
          have HA2 : Hid (∀ j (h : j < fs.length), j < k + 1 → (fs[j]).1.length ≤ 2000) := Lib.hid (fun j h hj => by
            by_cases e : j = k
            · subst e; rw [HS.out]; omega
            · exact HA.out j h (by omega))
          go_wp2_with fail
          go_round
          case rel => exact ⟨k + 1, by omega, by go_num, HA2⟩
          case measure => simp [intOf]; omega
      · have HO := W.long_all (fs := fs) (fun j h => HA.out j h (by have := Hm.out; omega))
        have HL : Hid (W.longF fs = false) := Lib.hid (by rw [HO, Hm.out]; exact decide_eq_false (by omega))
        clear HO HA
        go_wp2_with fail
        go_loopw [5, 6] (fun o i wr => ∃ n : Nat, n ≤ m ∧ i = .int .i64 n ∧ o = .string ⟨(W.lineB (fs.take n)).toArray⟩ ∧ Below w.heap.size w wr ∧ Hid (∀ j (h : j < fs.length), j < n → W.badF fs[j] = false)) (fun _ i _ => m - (intOf i).toNat)
        case atStart => exact ⟨0, Nat.zero_le _, rfl, by rw [W.line_none], Below.refl _ _, Lib.hid (fun j h hj => by omega)⟩
        case round =>
          obtain ⟨n, hn, rfl, rfl, hbel, HA⟩ := hrel
          by_cases hnm : n < m
          · have hkf : n < fs.length := by rw [Hm.out]; exact hnm
            obtain ⟨hlb, c0, c1⟩ := (HB.out.below hbel).cells ad rfl n hkf
            rw [← addr_add, addr_one] at c1
            obtain ⟨s, q, hs⟩ : ∃ s q, fs[n]'hkf = (s, q) := ⟨_, _, rfl⟩
            rw [hs] at c0 c1
            have hs2 : s.length ≤ 2000 := by
              have := (W.long_no HL.out).2 _ (List.getElem_mem hkf)
              rw [hs] at this; exact this
            have hOl := W.line_len (fs := fs.take n) (m := 2000) (fun f hf => (W.long_no HL.out).2 f (List.mem_of_mem_take hf))
            have hYl := W.write_len (f := (s, q))
            rw [List.length_take] at hOl
            have hOl2 : (W.lineB (fs.take n)).length ≤ 1000000 := by omega
            have hYl2 : (W.writeB (s, q)).length ≤ 10000 := by simp only at hYl; omega
            have hways : n = 0 ∨ n ≠ 0 := by omega
            have hnx : (n = 0 → W.lineB (fs.take n) ++ W.writeB (s, q) = W.lineB (fs.take (n + 1))) ∧ (n ≠ 0 → W.lineB (fs.take n) ++ [32] ++ W.writeB (s, q) = W.lineB (fs.take (n + 1))) := by
              refine ⟨fun e => ?_, fun e => ?_⟩
              · subst e; rw [← hs]; exact W.line_first hkf
              · rw [← hs]; exact W.line_next hkf e
            have HNx := Lib.hid hnx
            have HS := Lib.hid hs
            obtain ⟨O, hO⟩ : ∃ O, O = W.lineB (fs.take n) := ⟨_, rfl⟩
            rw [← hO] at hOl2 HNx ⊢
            clear hs hnx hO hOl hYl
            cases q with
            | true =>
              have HA2 : Hid (∀ j (h : j < fs.length), j < n + 1 → W.badF fs[j] = false) := Lib.hid (fun j h hj => by
                by_cases e : j = n
                · subst e; rw [HS.out]; rfl
                · exact HA.out j h (by omega))
              rw [W.write_quoted] at HNx hYl2
              obtain ⟨Y, hY⟩ : ∃ Y, Y = 34 :: (W.escS s ++ [34]) := ⟨_, rfl⟩
              rw [← hY] at HNx hYl2
              have HYq := Lib.hid hY
              clear hY
              rcases hways with hz | hz
              · have hz' : ¬ (0 : Int) < n := by omega
                have HNy := Lib.hid (HNx.out.1 hz)
                clear hz HNx
                go_wp2_with fail
                refine (RQuote_any ⟨s.toArray⟩ _ (by show s.length ≤ _; omega)).mono ?_
                rintro e w4 ⟨rfl, hb4⟩
                rw [show (34 :: (W.escS (⟨s.toArray⟩ : ByteArray).data.toList ++ [34])) = Y from HYq.out.symm]
                have hbel4 := hbel.trans (hb4.mono hbel.size)
                go_wp2_with fail
                go_roundw
                case rel => exact ⟨n + 1, by omega, by go_num, str_first HNy.out, hbel4, HA2⟩
                case measure => simp [intOf]; omega
              · have hz' : (0 : Int) < n := by omega
                have HNy := Lib.hid (HNx.out.2 hz)
                clear hz HNx
                go_wp2_with fail
                refine (RQuote_any ⟨s.toArray⟩ _ (by show s.length ≤ _; omega)).mono ?_
                rintro e w4 ⟨rfl, hb4⟩
                rw [show (34 :: (W.escS (⟨s.toArray⟩ : ByteArray).data.toList ++ [34])) = Y from HYq.out.symm]
                have hbel4 := hbel.trans (hb4.mono hbel.size)
                go_wp2_with fail
                go_roundw
                case rel => exact ⟨n + 1, by omega, by go_num, str_next HNy.out, hbel4, HA2⟩
                case measure => simp [intOf]; omega
            | false =>
              have hbw : W.bareOk s = true ∨ W.bareOk s = false := by cases W.bareOk s <;> simp
              rcases hbw with hbo | hbo
              · have HA2 : Hid (∀ j (h : j < fs.length), j < n + 1 → W.badF fs[j] = false) := Lib.hid (fun j h hj => by
                  by_cases e : j = n
                  · subst e; rw [HS.out]; unfold W.badF; rw [hbo]; rfl
                  · exact HA.out j h (by omega))
                rw [W.write_bare] at HNx hYl2
                rcases hways with hz | hz
                · have hz' : ¬ (0 : Int) < n := by omega
                  have HNy := Lib.hid (HNx.out.1 hz)
                  clear hz HNx
                  go_wp2_with fail
                  refine (RBare_any ⟨s.toArray⟩ _ (by show s.length ≤ _; unfold maxLen; omega)).mono ?_
                  rintro e w4 ⟨rfl, rfl⟩
                  rw [show W.bareOk (⟨s.toArray⟩ : ByteArray).data.toList = true from hbo]
                  go_wp2_with fail
                  go_roundw
                  case rel => exact ⟨n + 1, by omega, by go_num, str_first HNy.out, hbel, HA2⟩
                  case measure => simp [intOf]; omega
                · have hz' : (0 : Int) < n := by omega
                  have HNy := Lib.hid (HNx.out.2 hz)
                  clear hz HNx
                  go_wp2_with fail
                  refine (RBare_any ⟨s.toArray⟩ _ (by show s.length ≤ _; unfold maxLen; omega)).mono ?_
                  rintro e w4 ⟨rfl, rfl⟩
                  rw [show W.bareOk (⟨s.toArray⟩ : ByteArray).data.toList = true from hbo]
                  go_wp2_with fail
                  go_roundw
                  case rel => exact ⟨n + 1, by omega, by go_num, str_next HNy.out, hbel, HA2⟩
                  case measure => simp [intOf]; omega
              · have HX := Lib.hid (W.bad_at hkf (by rw [HS.out]; unfold W.badF; rw [hbo]; rfl))
                clear HNx hways
                go_wp2_with fail
                refine (RBare_any ⟨s.toArray⟩ _ (by show s.length ≤ _; unfold maxLen; omega)).mono ?_
                rintro e w4 ⟨rfl, rfl⟩
                rw [show W.bareOk (⟨s.toArray⟩ : ByteArray).data.toList = false from hbo]
                go_wp2_with fail
                go_ret2
                exact join_bad HL.out HX.out hbel
          · have htk : fs.take n = fs := List.take_of_length_le (by have := Hm.out; omega)
            have HX := Lib.hid (W.bad_none (fs := fs) (fun j h => HA.out j h (by have := Hm.out; omega)))
            have HTk := Lib.hid htk
            rw [htk]
            obtain ⟨L, hL⟩ : ∃ L, L = W.lineB fs := ⟨_, rfl⟩
            rw [← hL]
            by_cases h8 : 8192 < L.length
            · have h8' : (8192 : Int) < L.length := by omega
              have HY : Hid (8192 < (W.lineB fs).length) := Lib.hid (hL ▸ h8)
              clear h8 hL htk
              go_wp2_with fail
              go_ret2
              exact join_far HL.out HX.out HY.out hbel
            · have h8' : ¬ (8192 : Int) < L.length := by omega
              have HY : Hid (¬ 8192 < (W.lineB fs).length) := Lib.hid (hL ▸ h8)
              have HQ := Lib.hid hL
              clear h8 hL htk
              go_wp2_with fail
              go_ret2
              rw [HQ.out]
              exact join_good HL.out HX.out HY.out hbel
set_option maxRecDepth 100000 in
theorem RJoin_any (A : Option Addr) (c m : Nat) (fs : List FV) (w : World) (hb : FieldsIn w w.heap.size A c fs) (hm : fs.length = m) :
    Calls Tryd.prog 26 #[.slice A m c] w (JoinPost fs w) := by
  cases A with
  | some ad => exact RJoin_some ad c m fs w hb hm
  | none =>
    obtain ⟨rfl, rfl⟩ := hb.nil_of
    obtain rfl : m = 0 := hm.symm
    clear hb hm
    go_enter Tryd.func26, Tryd.ntmps26
    go_wp2_with fail
    refine wp_loop_rounds 1 ?_
    rw [rounds_succ]
    go_wp2_with fail
    refine wp_loop_rounds 1 ?_
    rw [rounds_succ]
    go_wp2_with fail
    go_ret2
    exact join_good (fs := []) rfl rfl (by decide) (Below.refl _ _)
end Go.Proofs.YtbjfpmklmhgbdaaDoor
