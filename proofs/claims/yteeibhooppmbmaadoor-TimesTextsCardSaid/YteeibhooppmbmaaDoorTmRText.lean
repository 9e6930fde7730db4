/- Contracts of the reference's digits, two and Print. -/
import Derived.Test.YteeibhooppmbmaaDoorTmPrint
namespace Go.Proofs.YteeibhooppmbmaaDoor
open Go.RowKit
set_option linter.unusedSimpArgs false
set_option maxRecDepth 100000
theorem conv_one (w : World) (b : Nat) (c : Int) (cap : Nat) (h : w.cell? ⟨b, 0, none⟩ = some (.int .u8 c)) : (convert 70 9 (.slice (some ⟨b, 0, none⟩) 1 cap)).run Tryd.prog w = .ok (.string ⟨[UInt8.ofNat c.toNat].toArray⟩) w :=
  run_convert_bytes_arg w 70 5 Tryd.underlying70 Tryd.underlying5 b 0 1 cap [c] rfl (fun i hi => by
    obtain rfl : i = 0 := by omega
    exact h) 9 Tryd.underlying9
theorem conv_one_alloc (w : World) (c : Int) (cap : Nat) : (convert 70 9 (.slice (some ⟨w.heap.size, 0, none⟩) 1 cap)).run Tryd.prog (w.alloc (.cells #[.int .u8 c] 5)) = .ok (.string ⟨[UInt8.ofNat c.toNat].toArray⟩) (w.alloc (.cells #[.int .u8 c] 5)) :=
  conv_one _ _ _ _ (by simp)
namespace T
theorem itoa_digit {n : Int} (h0 : 0 ≤ n) (h1 : n ≤ 9) : Lib.itoa n = [UInt8.ofNat (48 + n).toNat] := by
  unfold Lib.itoa
  rw [if_neg (by omega), Lib.decDigits_one (by omega), show 48 + n.toNat = (48 + n).toNat by omega]
theorem itoa_step {n : Int} (h : 9 < n) : Lib.itoa n = Lib.itoa (n / 10) ++ Lib.itoa (n % 10) := by
  rw [itoa_digit (n := n % 10) (by omega) (by omega)]
  unfold Lib.itoa
  rw [if_neg (by omega), if_neg (by omega), Lib.decDigits, dif_neg (by omega)]
  have e1 : n.toNat / 10 = (n / 10).toNat := by omega
  have e2 : 48 + n.toNat % 10 = (48 + n % 10).toNat := by omega
  rw [e1, e2]
theorem two_itoa {n : Int} (h0 : 0 ≤ n) (h1 : n < 100) : twoD n = Lib.itoa (n / 10) ++ Lib.itoa (n % 10) := by
  rw [itoa_digit (by omega) (by omega), itoa_digit (by omega) (by omega)]
  rfl
end T
def StrPost (l : List UInt8) (w : World) (e : Ending) (w' : World) : Prop := e = .returned (.string ⟨l.toArray⟩) ∧ Below w.heap.size w w'
theorem Rdigits_small (n : Int) (w : World) (h0 : 0 ≤ n) (h1 : n ≤ 9) :
    Calls Tryd.prog 46 #[.int .i64 n] w (StrPost (Lib.itoa n) w) := by
  have hcv := conv_one_alloc
  have hs : IntKind.i64.wrap (48 + n) = 48 + n := IntWalk.i64_in _ (by omega)
  have hu : IntKind.u8.wrap (48 + n) = 48 + n := by simp [IntKind.wrap, IntKind.bits, IntKind.signed]; omega
  have H := Lib.hid (T.itoa_digit h0 h1)
  have h10 : n < 10 := by omega
  go_enter Tryd.func46, Tryd.ntmps46
  go_wp2_with fail
  go_ret
  unfold StrPost
  rw [H.out]
  exact ⟨rfl, below_new _ _⟩
theorem Rdigits_any (k : Nat) : ∀ (n : Int) (w : World), n.natAbs ≤ k → 0 ≤ n → n ≤ 9223372036854775807 →
    Calls Tryd.prog 46 #[.int .i64 n] w (StrPost (Lib.itoa n) w) := by
  induction k with
  | zero =>
    intro n w hk _ _
    exact Rdigits_small n w (by omega) (by omega)
  | succ k ih =>
    intro n w hk h0 h1
    by_cases h9 : n ≤ 9
    · exact Rdigits_small n w h0 h9
    · have D1 := Lib.hid (fun w => ih (n / 10) w (by omega) (by omega) (by omega))
      have D2 := Lib.hid (fun w => Rdigits_small (n % 10) w (by omega) (by omega))
      have hq : IntKind.i64.wrap (n.tdiv 10) = n / 10 := by rw [Int.tdiv_eq_ediv_of_nonneg (by omega)]; exact IntWalk.i64_in _ (by omega)
      have h10 : ¬ n < 10 := by omega
      have l1 := Lib.itoa_length_le (n / 10) (by omega) (by omega)
      have l2 := Lib.itoa_length_le (n % 10) (by omega) (by omega)
      obtain ⟨R, hR⟩ : ∃ R, Lib.itoa n = R := ⟨_, rfl⟩
      rw [hR]
      rw [T.itoa_step (by omega)] at hR
      have HR := Lib.hid hR
      clear hR ih hk h9
      unfold StrPost at D1 D2
      generalize Lib.itoa (n / 10) = x1 at D1 HR l1
      generalize Lib.itoa (n % 10) = x2 at D2 HR l2
      go_enter Tryd.func46, Tryd.ntmps46
      go_wp2_with fail
      refine (D1.out _).mono ?_
      rintro e w1 ⟨rfl, hb1⟩
      go_wp2_with fail
      refine (D2.out _).mono ?_
      rintro e w2 ⟨rfl, hb⟩
      have hb2 := bt hb1 hb1.size hb
      go_wp2_with fail
      go_ret
      unfold StrPost
      rw [← HR.out, ← mk_append]
      exact ⟨rfl, hb2⟩
theorem Rtwo_any (n : Int) (w : World) (h0 : 0 ≤ n) (h1 : n < 100) :
    Calls Tryd.prog 47 #[.int .i64 n] w (StrPost (T.twoD n) w) := by
  have D1 := Lib.hid (fun w => Rdigits_small (n / 10) w (by omega) (by omega))
  have D2 := Lib.hid (fun w => Rdigits_small (n % 10) w (by omega) (by omega))
  have hq : IntKind.i64.wrap (n.tdiv 10) = n / 10 := by rw [Int.tdiv_eq_ediv_of_nonneg (by omega)]; exact IntWalk.i64_in _ (by omega)
  have l1 := Lib.itoa_length_le (n / 10) (by omega) (by omega)
  have l2 := Lib.itoa_length_le (n % 10) (by omega) (by omega)
  have HR := Lib.hid (T.two_itoa h0 h1)
  unfold StrPost at D1 D2
  generalize T.twoD n = R at HR ⊢
  generalize Lib.itoa (n / 10) = x1 at D1 HR l1
  generalize Lib.itoa (n % 10) = x2 at D2 HR l2
  go_enter Tryd.func47, Tryd.ntmps47
  go_wp2_with fail
  refine (D1.out _).mono ?_
  rintro e w1 ⟨rfl, hb1⟩
  go_wp2_with fail
  refine (D2.out _).mono ?_
  rintro e w2 ⟨rfl, hb⟩
  have hb2 := bt hb1 hb1.size hb
  go_wp2_with fail
  go_ret
  unfold StrPost
  rw [HR.out, ← mk_append]
  exact ⟨rfl, hb2⟩
set_option maxHeartbeats 2000000 in
theorem RPrint_any (t : Int) (ht : T.R64 t) (w : World) :
    Calls Tryd.prog 32 #[.int .i64 t] w (PrintPost t w) := by
  unfold T.R64 at ht
  by_cases h0 : 0 ≤ t
  · have HV : Hid (∀ (s : ByteArray) W, s = ⟨(T.text t).toArray⟩ → Below w.heap.size w W → PrintPost t w (.returned (.tuple #[.string s, .int .i64 0])) W) := Lib.hid (fun s W hs hb => ⟨by unfold T.printL T.printE; rw [if_pos h0, if_pos h0, hs], hb⟩)
    have hn : ¬ t < 0 := by omega
    have q1 : IntKind.i64.wrap ((t % 86400).tdiv 3600) = t % 86400 / 3600 := by rw [Int.tdiv_eq_ediv_of_nonneg (by omega)]; exact IntWalk.i64_in _ (by omega)
    have q2 : IntKind.i64.wrap ((t % 86400).tdiv 60) = t % 86400 / 60 := by rw [Int.tdiv_eq_ediv_of_nonneg (by omega)]; exact IntWalk.i64_in _ (by omega)
    have q3 : IntKind.i64.wrap (t.tdiv 86400) = t / 86400 := by rw [Int.tdiv_eq_ediv_of_nonneg (by omega)]; exact IntWalk.i64_in _ (by omega)
    have D0 := Lib.hid (fun w => Rdigits_any _ (t / 86400) w (Nat.le_refl _) (by omega) (by omega))
    have D1 := Lib.hid (fun w => Rtwo_any (t % 86400 / 3600) w (by omega) (by omega))
    have D2 := Lib.hid (fun w => Rtwo_any (t % 86400 / 60 % 60) w (by omega) (by omega))
    have D3 := Lib.hid (fun w => Rtwo_any (t % 60) w (by omega) (by omega))
    obtain ⟨TX, hTX⟩ : ∃ TX, T.text t = TX := ⟨_, rfl⟩
    rw [hTX] at HV
    unfold T.text at hTX
    rw [show t % 3600 / 60 = t % 86400 / 60 % 60 by omega] at hTX
    have HTx := Lib.hid hTX
    clear hTX
    have l1 : (T.twoD (t % 86400 / 3600)).length = 2 := rfl
    have l2 : (T.twoD (t % 86400 / 60 % 60)).length = 2 := rfl
    have l3 : (T.twoD (t % 60)).length = 2 := rfl
    have l4 := Lib.itoa_length_le (t / 86400) (by omega) (by omega)
    have p1 : 0 ≤ t % 86400 := by omega
    have p2 : 0 ≤ t % 86400 / 60 := by omega
    unfold StrPost at D0 D1 D2 D3
    generalize T.twoD (t % 86400 / 3600) = x1 at D1 HTx l1
    generalize T.twoD (t % 86400 / 60 % 60) = x2 at D2 HTx l2
    generalize T.twoD (t % 60) = x3 at D3 HTx l3
    generalize Lib.itoa (t / 86400) = x4 at D0 HTx l4
    go_enter Tryd.func32, Tryd.ntmps32
    go_wp2_with fail
    refine (D0.out _).mono ?_
    rintro e w1 ⟨rfl, hb1⟩
    go_wp2_with fail
    refine (D1.out _).mono ?_
    rintro e w2 ⟨rfl, hb⟩
    have hb2 := bt hb1 hb1.size hb
    clear hb hb1
    go_wp2_with fail
    refine (D2.out _).mono ?_
    rintro e w3 ⟨rfl, hb⟩
    have hb3 := bt hb2 hb2.size hb
    clear hb hb2
    go_wp2_with fail
    refine (D3.out _).mono ?_
    rintro e w4 ⟨rfl, hb⟩
    have hb4 := bt hb3 hb3.size hb
    clear hb hb3
    go_wp2_with fail
    go_ret2
    refine HV.out _ _ ?_ hb4
    rw [← HTx.out, show (⟨#[100]⟩ : ByteArray) = ⟨([100] : List UInt8).toArray⟩ from rfl, show (⟨#[58]⟩ : ByteArray) = ⟨([58] : List UInt8).toArray⟩ from rfl]
    simp only [mk_append]
    simp
  · have HV : Hid (∀ W, Below w.heap.size w W → PrintPost t w (.returned (.tuple #[.string ⟨#[]⟩, .int .i64 7])) W) := Lib.hid (fun W hb => ⟨by unfold T.printL T.printE; rw [if_neg h0, if_neg h0], hb⟩)
    have hn : t < 0 := by omega
    go_enter Tryd.func32, Tryd.ntmps32
    go_wp2_with fail
    go_ret2
    exact HV.out _ (Below.refl _ _)
end Go.Proofs.YteeibhooppmbmaaDoor
