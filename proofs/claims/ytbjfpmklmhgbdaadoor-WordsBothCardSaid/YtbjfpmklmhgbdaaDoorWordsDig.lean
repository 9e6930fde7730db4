/- Contracts of Digits, of package words and of its reference. -/
import Derived.Test.YtbjfpmklmhgbdaaDoorWordsInt2
import Derived.Deep.RegionWith
import Derived.ShutString
import Derived.IntWalk
import Derived.Lib.ItoaLen
import Derived.Lib.AppendIntMem
import Derived.Laws.BytesArg
namespace Go.Proofs.YtbjfpmklmhgbdaaDoor
open Go.RowKit
theorem bcell {W w1 : World} (hb : Below W.heap.size W w1) : (∀ b o, b < W.heap.size → w1.cell? ⟨b, o, none⟩ = W.cell? ⟨b, o, none⟩) ∧ (∀ b o, b < W.heap.size → w1.frozen? ⟨b, o, none⟩ = W.frozen? ⟨b, o, none⟩) :=
  ⟨fun b o h => hb.cell (p := ⟨b, o, none⟩) h, fun b o h => hb.frozen (p := ⟨b, o, none⟩) h⟩

namespace W
theorem itoa_digit {n : Int} (h0 : 0 ≤ n) (h1 : n ≤ 9) : Lib.itoa n = [UInt8.ofNat (48 + n.toNat)] := by
  unfold Lib.itoa
  rw [if_neg (by omega), Lib.decDigits_one (by omega)]
theorem itoa_minus {n : Int} (h : n < 0) : Lib.itoa n = [45] ++ Lib.itoa (-n) := by
  unfold Lib.itoa
  rw [if_pos h, if_neg (by omega), show (-n).toNat = n.natAbs from by omega]
  rfl
theorem tdiv_neg' (n : Int) (h : n ≤ 0) : n.tdiv 10 = -(-n / 10) := by
  obtain ⟨m, rfl⟩ : ∃ m : Int, n = -m := ⟨-n, by omega⟩
  rw [Int.neg_tdiv, Int.tdiv_eq_ediv_of_nonneg (by omega)]
  simp
theorem tmod_neg' (n : Int) (h : n ≤ 0) : n.tmod 10 = -(-n % 10) := by
  have h1 := Int.mul_tdiv_add_tmod n 10
  rw [tdiv_neg' n h] at h1
  omega
/-- The string of one byte. -/
def oneB (c : Int) : ByteArray := ⟨#[UInt8.ofNat c.toNat]⟩
theorem itoa_step {n : Int} (h : 9 < n) : Lib.itoa n = Lib.itoa (n / 10) ++ [UInt8.ofNat (48 + n % 10).toNat] := by
  unfold Lib.itoa
  rw [if_neg (by omega), if_neg (by omega), Lib.decDigits, dif_neg (by omega)]
  have e1 : n.toNat / 10 = (n / 10).toNat := by omega
  have e2 : 48 + n.toNat % 10 = (48 + n % 10).toNat := by omega
  rw [e1, e2]
theorem itoa_step_neg {n : Int} (h : n < -9) : Lib.itoa n = Lib.itoa (-(-n / 10)) ++ [UInt8.ofNat (48 + -n % 10).toNat] := by
  unfold Lib.itoa
  rw [if_pos (by omega), if_pos (by omega), Lib.decDigits, dif_neg (by omega)]
  have e1 : n.natAbs / 10 = (-(-n / 10)).natAbs := by omega
  have e2 : 48 + n.natAbs % 10 = (48 + -n % 10).toNat := by omega
  rw [e1, e2]
  rfl
end W
theorem conv_one (w : World) (b : Nat) (c : Int) (cap : Nat) (h : w.cell? ⟨b, 0, none⟩ = some (.int .u8 c)) : (convert 38 9 (.slice (some ⟨b, 0, none⟩) 1 cap)).run Tryd.prog w = .ok (.string (W.oneB c)) w :=
  run_convert_bytes_arg w 38 5 Tryd.underlying38 Tryd.underlying5 b 0 1 cap [c] rfl (fun i hi => by
    obtain rfl : i = 0 := by omega
    exact h) 9 Tryd.underlying9
theorem conv_kept (w w1 : World) (c : Int) (cap : Nat) (hc : ∀ b o, b < (w.alloc (.cells #[.int .u8 c] 5)).heap.size → w1.cell? ⟨b, o, none⟩ = (w.alloc (.cells #[.int .u8 c] 5)).cell? ⟨b, o, none⟩) :
    (convert 38 9 (.slice (some ⟨w.heap.size, 0, none⟩) 1 cap)).run Tryd.prog w1 = .ok (.string (W.oneB c)) w1 :=
  conv_one _ _ _ _ (by rw [hc _ _ (by simp)]; simp [World.cell?_alloc_new])
theorem conv_kept_drew (w w1 : World) (c : Int) (cap : Nat) (hc : ∀ b o, b < (w.alloc (.cells #[.int .u8 c] 5)).drew.heap.size → w1.cell? ⟨b, o, none⟩ = (w.alloc (.cells #[.int .u8 c] 5)).drew.cell? ⟨b, o, none⟩) :
    (convert 38 9 (.slice (some ⟨w.heap.size, 0, none⟩) 1 cap)).run Tryd.prog w1 = .ok (.string (W.oneB c)) w1 :=
  conv_one _ _ _ _ (by rw [hc _ _ (by simp)]; simp [World.cell?_alloc_new])
theorem conv_alloc_drew (w : World) (c : Int) (cap : Nat) : (convert 38 9 (.slice (some ⟨w.heap.size, 0, none⟩) 1 cap)).run Tryd.prog (w.alloc (.cells #[.int .u8 c] 5)).drew = .ok (.string (W.oneB c)) (w.alloc (.cells #[.int .u8 c] 5)).drew :=
  conv_one _ _ _ _ (by simp [World.cell?_alloc_new])
theorem bt {w W w1 : World} (h0 : Below w.heap.size w W) (hb : Below W.heap.size W w1) : Below w.heap.size w w1 := h0.trans (hb.mono h0.size)
theorem bt_alloc {w W w1 : World} (h0 : Below w.heap.size w W) (hb : Below W.heap.size W w1) (o : Obj) : Below w.heap.size w (w1.alloc o) := (bt h0 hb).alloc (bt h0 hb).size o
theorem ret_str {a b : ByteArray} (h : b = a) : Ending.returned (.string a) = .returned (.string b) := by rw [h]
theorem mk_append (l m : List UInt8) : (⟨l.toArray⟩ : ByteArray) ++ (⟨m.toArray⟩ : ByteArray) = ⟨(l ++ m).toArray⟩ := ByteArray.mk_append_mk l m
theorem oneB_size (c : Int) : (W.oneB c).size = 1 := rfl
theorem conv_alloc (w : World) (c : Int) (cap : Nat) : (convert 38 9 (.slice (some ⟨w.heap.size, 0, none⟩) 1 cap)).run Tryd.prog (w.alloc (.cells #[.int .u8 c] 5)) = .ok (.string (W.oneB c)) (w.alloc (.cells #[.int .u8 c] 5)) :=
  conv_one _ _ _ _ (by simp [World.cell?_alloc_new])

set_option maxRecDepth 100000 in
set_option maxHeartbeats 400000 in
theorem RDigits_small (n : Int) (w : World) (h0 : 0 ≤ n) (h1 : n ≤ 9) :
    Calls Tryd.prog 16 #[.int .i64 n] w fun e w' => e = .returned (.string ⟨(Lib.itoa n).toArray⟩) ∧ Below w.heap.size w w' := by
  have hcv0 := conv_alloc
  have hu : IntKind.u8.wrap (48 + n) = 48 + n := by simp [IntKind.wrap, IntKind.bits, IntKind.signed]; omega
  go_enter Tryd.func16, Tryd.ntmps16
  go_wp2_with fail
  go_ret
  exact ⟨ret_str (by rw [W.itoa_digit h0 h1, show 48 + n.toNat = (48 + n).toNat from by omega]; rfl), (Below.refl _ _).alloc (Nat.le_refl _) _⟩

set_option maxRecDepth 100000 in
set_option maxHeartbeats 400000 in
theorem RDigits_minus (n : Int) (w : World) (h0 : n < 0) (h1 : -9 ≤ n) :
    Calls Tryd.prog 16 #[.int .i64 n] w fun e w' => e = .returned (.string ⟨(Lib.itoa n).toArray⟩) ∧ Below w.heap.size w w' := by
  have hlen := Lib.itoa_length_le (-n) (by omega) (by omega)
  go_enter Tryd.func16, Tryd.ntmps16
  go_wp2_with (go_at_call 16; refine (RDigits_small (-n) _ (by omega) (by omega)).mono ?_; rintro e w1 ⟨rfl, hb⟩)
  go_ret
  exact ⟨ret_str (by rw [W.itoa_minus h0]; exact (mk_append [45] _).symm), hb⟩

set_option maxHeartbeats 400000 in
set_option maxRecDepth 100000 in
theorem RDigits_any (k : Nat) : ∀ (n : Int) (w : World), n.natAbs ≤ k → -9223372036854775808 ≤ n → n ≤ 9223372036854775807 →
    Calls Tryd.prog 16 #[.int .i64 n] w fun e w' => e = .returned (.string ⟨(Lib.itoa n).toArray⟩) ∧ Below w.heap.size w w' := by
  induction k with
  | zero =>
    intro n w hk _ _
    exact RDigits_small n w (by omega) (by omega)
  | succ k ih =>
    intro n w hk hlo hhi
    have Ih := Lib.hid ih
    clear ih
    by_cases h1 : 9 < n
    · have hq : IntKind.i64.wrap (n.tdiv 10) = n / 10 := by rw [Int.tdiv_eq_ediv_of_nonneg (by omega)]; exact IntWalk.i64_in _ (by omega)
      have hs : IntKind.i64.wrap (48 + n % 10) = 48 + n % 10 := IntWalk.i64_in _ (by omega)
      have hu : IntKind.u8.wrap (48 + n % 10) = 48 + n % 10 := by simp [IntKind.wrap, IntKind.bits, IntKind.signed]; omega
      go_enter Tryd.func16, Tryd.ntmps16
      go_wp2_with fail
      have hcv0 := conv_alloc
      have hcv2 := conv_alloc_drew
      have hlen := Lib.itoa_length_le (n / 10) (by omega) (by omega)
      have hone := oneB_size (48 + n % 10)
      go_region_with (go_at_call 16; refine (Ih.out (n / 10) _ (by omega) (by omega) (by omega)).mono ?_; rintro e w1 ⟨rfl, hb⟩; obtain ⟨hc, hf⟩ := bcell hb; try have hcv1 := conv_kept_drew w _ _ 1 hc)
      all_goals
        go_wp2_with fail
        go_ret
        refine ⟨ret_str ?_, ?_⟩
        · rw [W.itoa_step h1]
          exact (mk_append _ _).symm
        · first
            | exact bt_alloc (Below.refl _ _).drew hb _
            | exact bt ((Below.refl _ _).alloc (Nat.le_refl _) _).drew hb
            | go_show
    · by_cases h0 : 0 ≤ n
      · exact RDigits_small n w h0 (by omega)
      · by_cases h2 : -9 ≤ n
        · exact RDigits_minus n w (by omega) h2
        · have hq : IntKind.i64.wrap (n.tdiv 10) = -(-n / 10) := by rw [W.tdiv_neg' n (by omega)]; exact IntWalk.i64_in _ (by omega)
          have hcv0 := conv_alloc
          have hcv2 := conv_alloc_drew
          have hlen := Lib.itoa_length_le (-(-n / 10)) (by omega) (by omega)
          have h2' : n < -9 := by omega
          by_cases h3 : 0 < -n % 10
          · have hm : n.tmod 10 = -(-n % 10) := W.tmod_neg' n (by omega)
            have hs : IntKind.i64.wrap (48 + -n % 10) = 48 + -n % 10 := IntWalk.i64_in _ (by omega)
            have hu : IntKind.u8.wrap (48 + -n % 10) = 48 + -n % 10 := by simp [IntKind.wrap, IntKind.bits, IntKind.signed]; omega
            have hone := oneB_size (48 + -n % 10)
            go_enter Tryd.func16, Tryd.ntmps16
            go_wp2_with fail
            go_region_with (go_at_call 16; refine (Ih.out (-(-n / 10)) _ (by omega) (by omega) (by omega)).mono ?_; rintro e w1 ⟨rfl, hb⟩; obtain ⟨hc, hf⟩ := bcell hb; try have hcv1 := conv_kept_drew w _ _ 1 hc)
            all_goals
              go_wp2_with fail
              go_ret
              refine ⟨ret_str ?_, ?_⟩
              · rw [W.itoa_step_neg h2']
                exact (mk_append _ _).symm
              · first
                  | exact bt_alloc (Below.refl _ _).drew hb _
                  | exact bt ((Below.refl _ _).alloc (Nat.le_refl _) _).drew hb
          · have hm : n.tmod 10 = 0 := by rw [W.tmod_neg' n (by omega)]; omega
            have hone := oneB_size 48
            have hnum : (UInt8.ofNat (48 : Int).toNat) = 48 := rfl
            have hz : -n % 10 = 0 := by omega
            have hlen2 : ¬ (9223372036854775807 < (Lib.itoa (-(-n / 10))).length + 1) := by omega
            have Hz := Lib.hid hz
            clear hz
            go_enter Tryd.func16, Tryd.ntmps16
            go_wp2_with fail
            go_region_with (go_at_call 16; refine (Ih.out (-(-n / 10)) _ (by omega) (by omega) (by omega)).mono ?_; rintro e w1 ⟨rfl, hb⟩; obtain ⟨hc, hf⟩ := bcell hb; try have hcv1 := conv_kept_drew w _ _ 1 hc)
            all_goals
              go_wp2_with fail
              go_ret
              refine ⟨ret_str ?_, ?_⟩
              · rw [W.itoa_step_neg h2', Hz.out]
                exact (mk_append _ _).symm
              · first
                  | exact bt_alloc (Below.refl _ _).drew hb _
                  | exact bt ((Below.refl _ _).alloc (Nat.le_refl _) _).drew hb

/-- What Digits of the reference returns, of any number. -/
theorem RDigits_all (n : Int) (w : World) (h1 : -9223372036854775808 ≤ n) (h2 : n ≤ 9223372036854775807) :
    Calls Tryd.prog 16 #[.int .i64 n] w fun e w' => e = .returned (.string ⟨(Lib.itoa n).toArray⟩) ∧ Below w.heap.size w w' :=
  RDigits_any _ n w (Nat.le_refl _) h1 h2

theorem Digits_any (n : Int) (w : World) (h1 : -9223372036854775808 ≤ n) (h2 : n ≤ 9223372036854775807) (htab : Lib.TabIs Tryd.prog w "internal/strconv.uint64pow10" .u64 Lib.pow10Tab) :
    Calls Tryd.prog 15 #[.int .i64 n] w fun e w' => e = .returned (.string ⟨(Lib.itoa n).toArray⟩) ∧ Below w.heap.size w w' := by
  have Ht := Lib.hid htab
  clear htab
  go_enter Tryd.func15, Tryd.ntmps15
  go_wp2_with (go_at_call 37; refine (Tryd.strconv_FormatInt_10 n h1 h2 _ Ht.out).mono ?_; rintro e w1 ⟨rfl, hg⟩)
  go_ret
  obtain ⟨k, os, rfl⟩ := hg
  exact ⟨rfl, Lib.below_grow _ _ (Nat.le_refl _) _ _⟩

end Go.Proofs.YtbjfpmklmhgbdaaDoor
