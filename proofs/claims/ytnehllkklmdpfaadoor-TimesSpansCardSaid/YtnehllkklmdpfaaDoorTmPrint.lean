/- Contracts of twoDigits, Print and Parse. -/
import Derived.Test.YtnehllkklmdpfaaDoorTmWrite
namespace Go.Proofs.YtnehllkklmdpfaaDoor
open Go.RowKit
set_option linter.unusedSimpArgs false
set_option maxRecDepth 100000
theorem conv_two (w : World) (b : Nat) (c d : Int) (cap : Nat) (h : w.cell? ⟨b, 0, none⟩ = some (.int .u8 c)) (h1 : w.cell? ⟨b, 1, none⟩ = some (.int .u8 d)) : (convert 70 9 (.slice (some ⟨b, 0, none⟩) 2 cap)).run Tryd.prog w = .ok (.string ⟨[UInt8.ofNat c.toNat, UInt8.ofNat d.toNat].toArray⟩) w :=
  run_convert_bytes_arg w 70 5 Tryd.underlying70 Tryd.underlying5 b 0 2 cap [c, d] rfl (fun i hi => by
    match i, hi with
    | 0, _ => exact h
    | 1, _ => exact h1) 9 Tryd.underlying9
theorem conv_two_alloc (w : World) (c d : Int) (cap : Nat) : (convert 70 9 (.slice (some ⟨w.heap.size, 0, none⟩) 2 cap)).run Tryd.prog (w.alloc (.cells #[.int .u8 c, .int .u8 d] 5)) = .ok (.string ⟨[UInt8.ofNat c.toNat, UInt8.ofNat d.toNat].toArray⟩) (w.alloc (.cells #[.int .u8 c, .int .u8 d] 5)) :=
  conv_two _ _ _ _ _ (by simp) (by simp)
theorem twoDigits_any (n : Int) (w : World) (h0 : 0 ≤ n) (h1 : n < 100) :
    Calls Tryd.prog 44 #[.int .i64 n] w fun e w' => e = .returned (.string ⟨(T.twoD n).toArray⟩) ∧ Below w.heap.size w w' := by
  have hq : IntKind.i64.wrap (n.tdiv 10) = n / 10 := by rw [Int.tdiv_eq_ediv_of_nonneg (by omega)]; exact IntWalk.i64_in _ (by omega)
  have hs : IntKind.i64.wrap (48 + n / 10) = 48 + n / 10 := IntWalk.i64_in _ (by omega)
  have hs2 : IntKind.i64.wrap (48 + n % 10) = 48 + n % 10 := IntWalk.i64_in _ (by omega)
  have hu : IntKind.u8.wrap (48 + n / 10) = 48 + n / 10 := by simp [IntKind.wrap, IntKind.bits, IntKind.signed]; omega
  have hu2 : IntKind.u8.wrap (48 + n % 10) = 48 + n % 10 := by simp [IntKind.wrap, IntKind.bits, IntKind.signed]; omega
  have hcv := conv_two_alloc
  go_enter Tryd.func44, Tryd.ntmps44
  go_wp2_with fail
  go_ret
  exact ⟨rfl, below_new _ _⟩
/-- The table of powers lies in its variable. -/
def PowIn (w : World) : Prop := Lib.TabIs Tryd.prog w "internal/strconv.uint64pow10" .u64 Lib.pow10Tab
theorem pow_named : Tryd.prog.globalNamed "internal/strconv.uint64pow10" = some 0 := by kernel_rfl
theorem var?_below {w w1 : World} {B : Nat} {n : String} {g : Nat} (hb : Below B w w1) (hg : Tryd.prog.globalNamed n = some g) (h0 : g < B) {cs : Array Value} (h : w.var? Tryd.prog n = some cs) : w1.var? Tryd.prog n = some cs := by
  unfold World.var? at *
  rw [hg] at *
  simp only [Option.bind_some] at *
  rw [hb.block g h0]
  exact h
/-- The table lies in its variable, below the end of the world. -/
structure Tab (w : World) : Prop where
  pow : PowIn w
  lt : 0 < w.heap.size
theorem Tab.on {w w1 : World} (h : Tab w) (hb : Below w.heap.size w w1) : Tab w1 := ⟨var?_below hb pow_named h.lt h.pow, Nat.lt_of_lt_of_le h.lt hb.size⟩
def PrintPost (t : Int) (w : World) (e : Ending) (w' : World) : Prop := e = .returned (.tuple #[.string ⟨(T.printL t).toArray⟩, .int .i64 (T.printE t)]) ∧ Below w.heap.size w w'
set_option maxHeartbeats 2000000 in
theorem Print_any (t : Int) (ht : T.R64 t) (w : World) (hT : Tab w) :
    Calls Tryd.prog 31 #[.int .i64 t] w (PrintPost t w) := by
  unfold T.R64 at ht
  have HT := Lib.hid hT
  have HB := Lib.hid (below_new w)
  clear hT
  by_cases h0 : 0 ≤ t
  · have HV : Hid (∀ (s : ByteArray) W, s = ⟨(T.text t).toArray⟩ → Below w.heap.size w W → PrintPost t w (.returned (.tuple #[.string s, .int .i64 0])) W) := Lib.hid (fun s W hs hb => ⟨by unfold T.printL T.printE; rw [if_pos h0, if_pos h0, hs], hb⟩)
    have q1 : IntKind.i64.wrap ((t % 86400).tdiv 3600) = t % 86400 / 3600 := by rw [Int.tdiv_eq_ediv_of_nonneg (by omega)]; exact IntWalk.i64_in _ (by omega)
    have q2 : IntKind.i64.wrap ((t % 3600).tdiv 60) = t % 3600 / 60 := by rw [Int.tdiv_eq_ediv_of_nonneg (by omega)]; exact IntWalk.i64_in _ (by omega)
    have q3 : IntKind.i64.wrap (t.tdiv 86400) = t / 86400 := by rw [Int.tdiv_eq_ediv_of_nonneg (by omega)]; exact IntWalk.i64_in _ (by omega)
    have D1 := Lib.hid (fun w => twoDigits_any (t % 86400 / 3600) w (by omega) (by omega))
    have D2 := Lib.hid (fun w => twoDigits_any (t % 3600 / 60) w (by omega) (by omega))
    have D3 := Lib.hid (fun w => twoDigits_any (t % 60) w (by omega) (by omega))
    have F := Lib.hid (fun w (h : Tab w) => Tryd.strconv_FormatInt_10 (t / 86400) (by omega) (by omega) w h.pow)
    obtain ⟨TX, hTX⟩ : ∃ TX, T.text t = TX := ⟨_, rfl⟩
    rw [hTX] at HV
    unfold T.text at hTX
    have HTx := Lib.hid hTX
    clear hTX
    have l1 : (T.twoD (t % 86400 / 3600)).length = 2 := rfl
    have l2 : (T.twoD (t % 3600 / 60)).length = 2 := rfl
    have l3 : (T.twoD (t % 60)).length = 2 := rfl
    have l4 := Lib.itoa_length_le (t / 86400) (by omega) (by omega)
    generalize T.twoD (t % 86400 / 3600) = x1 at D1 HTx l1
    generalize T.twoD (t % 3600 / 60) = x2 at D2 HTx l2
    generalize T.twoD (t % 60) = x3 at D3 HTx l3
    generalize Lib.itoa (t / 86400) = x4 at F HTx l4
    go_enter Tryd.func31, Tryd.ntmps31
    go_wp2_with fail
    refine (areTimes_one t w.heap.size 1 _ (by simp)).mono ?_
    rintro e w' ⟨rfl, hw'⟩
    rw [hw', decide_eq_true h0]
    have hb0 := HB.out (.cells #[.int .i64 t] 2)
    generalize w.alloc (.cells #[.int .i64 t] 2) = wa at hb0 ⊢
    clear hw' 
    go_wp2_with fail
    refine (D1.out _).mono ?_
    rintro e w1 ⟨rfl, hb1⟩
    go_wp2_with fail
    refine (D2.out _).mono ?_
    rintro e w2 ⟨rfl, hb2⟩
    go_wp2_with fail
    refine (D3.out _).mono ?_
    rintro e w3 ⟨rfl, hb3⟩
    have hb01 := bt hb0 hb0.size hb1
    have hb02 := bt hb01 hb01.size hb2
    have hb03 := bt hb02 hb02.size hb3
    have HB3 := Lib.hid hb03
    clear hb01 hb02 hb03 hb1 hb2 hb3 hb0
    go_wp2_with fail
    refine (F.out _ (HT.out.on HB3.out)).mono ?_
    rintro e w4 ⟨rfl, kk, os, rfl⟩
    have HB4 : Hid (Below w.heap.size w (Sort.grow (w3.drewN kk) os)) := Lib.hid (bt HB3.out HB3.out.size (Lib.below_grow _ _ (Nat.le_refl _) _ _))
    generalize Sort.grow (w3.drewN kk) os = w4 at HB4 ⊢
    go_wp2_with fail
    go_ret2
    refine HV.out _ _ ?_ HB4.out
    rw [← HTx.out, show (⟨#[100]⟩ : ByteArray) = ⟨([100] : List UInt8).toArray⟩ from rfl, show (⟨#[58]⟩ : ByteArray) = ⟨([58] : List UInt8).toArray⟩ from rfl]
    simp only [mk_append]
    simp
  · have HV : Hid (∀ W, Below w.heap.size w W → PrintPost t w (.returned (.tuple #[.string ⟨#[]⟩, .int .i64 7])) W) := Lib.hid (fun W hb => ⟨by unfold T.printL T.printE; rw [if_neg h0, if_neg h0], hb⟩)
    go_enter Tryd.func31, Tryd.ntmps31
    go_wp2_with fail
    refine (areTimes_one t w.heap.size 1 _ (by simp)).mono ?_
    rintro e w' ⟨rfl, hw'⟩
    rw [hw', decide_eq_false (by omega)]
    have hb0 := HB.out (.cells #[.int .i64 t] 2)
    generalize w.alloc (.cells #[.int .i64 t] 2) = wa at hb0 ⊢
    clear hw'
    go_wp2_with fail
    go_ret2
    exact HV.out _ hb0
def ParsePost (l : List UInt8) (w : World) (e : Ending) (w' : World) : Prop := ∃ v x, e = T.pr v x ∧ T.PRes l v x ∧ Below w.heap.size w w'
theorem parse_yes {l : List UInt8} {t : Int} (h : T.TextOf l t) {w w' : World} (hb : Below w.heap.size w w') : ParsePost l w (.returned (.tuple #[.int .i64 t, .int .i64 0])) w' := ⟨t, 0, rfl, Or.inl ⟨h, rfl⟩, hb⟩
theorem parse_no {l : List UInt8} (h : ∀ t, ¬ T.TextOf l t) {w w' : World} (hb : Below w.heap.size w w') : ParsePost l w (.returned (.tuple #[.int .i64 0, .int .i64 6])) w' := ⟨0, 6, rfl, Or.inr ⟨h, rfl, rfl⟩, hb⟩
theorem ba_ne {l m : List UInt8} (h : l ≠ m) : ((⟨l.toArray⟩ : ByteArray).toList == (⟨m.toArray⟩ : ByteArray).toList) = false := by
  rw [ByteArray.toList_eq, ByteArray.toList_eq]
  simpa using h
set_option maxHeartbeats 2000000 in
theorem Parse_any (l : List UInt8) (hl : l.length ≤ 1000) (w : World) (hT : Tab w) :
    Calls Tryd.prog 33 #[.string ⟨l.toArray⟩] w (ParsePost l w) := by
  have HT := Lib.hid hT
  have HR := Lib.hid (fun w => read_any l w (by omega))
  have hr := T.readV_r64 l
  obtain ⟨r, hrv⟩ : ∃ r, T.readV l = r := ⟨_, rfl⟩
  have HRv : Hid (∀ t, T.TextOf l t → t = r) := Lib.hid (fun t h => by rw [← hrv, h.2.2, T.readV_text h.1 h.2.1])
  rw [hrv] at HR hr
  have HP := Lib.hid (fun w h => Print_any r hr w h)
  unfold T.R64 at hr
  clear hT hrv
  by_cases h0 : 0 ≤ r
  · have e1 : T.printE r = 0 := if_pos h0
    have e2 : T.printL r = T.text r := if_pos h0
    unfold PrintPost at HP
    rw [e1, e2] at HP
    by_cases ht : T.text r = l
    · have HF : Hid (∀ W, Below w.heap.size w W → ParsePost l w (.returned (.tuple #[.int .i64 r, .int .i64 0])) W) := Lib.hid (fun W hb => parse_yes ⟨h0, by omega, ht.symm⟩ hb)
      rw [ht] at HP
      clear e1 e2 ht
      go_enter Tryd.func33, Tryd.ntmps33
      go_wp2_with fail
      refine (HR.out _).mono ?_
      rintro e w1 ⟨rfl, hb1⟩
      have HP1 := Lib.hid (HP.out w1 (HT.out.on hb1))
      go_wp2_with fail
      refine HP1.out.mono ?_
      rintro e w2 ⟨rfl, hb2⟩
      have hb12 := bt hb1 hb1.size hb2
      clear hb1 hb2
      go_wp2_with fail
      go_ret2
      exact HF.out _ hb12
    · have HF : Hid (∀ W, Below w.heap.size w W → ParsePost l w (.returned (.tuple #[.int .i64 0, .int .i64 6])) W) := Lib.hid (fun W hb => parse_no (fun t h => ht (by rw [← HRv.out t h]; exact h.2.2.symm)) hb)
      have hne := ba_ne ht
      generalize (⟨(T.text r).toArray⟩ : ByteArray) = S at HP hne
      generalize (⟨l.toArray⟩ : ByteArray) = L at HR hne ⊢
      clear e1 e2 ht
      go_enter Tryd.func33, Tryd.ntmps33
      go_wp2_with fail
      refine (HR.out _).mono ?_
      rintro e w1 ⟨rfl, hb1⟩
      have HP1 := Lib.hid (HP.out w1 (HT.out.on hb1))
      go_wp2_with fail
      refine HP1.out.mono ?_
      rintro e w2 ⟨rfl, hb2⟩
      have hb12 := bt hb1 hb1.size hb2
      clear hb1 hb2
      go_wp2_with fail
      go_ret2
      exact HF.out _ hb12
  · have e1 : T.printE r = 7 := if_neg h0
    have HF : Hid (∀ W, Below w.heap.size w W → ParsePost l w (.returned (.tuple #[.int .i64 0, .int .i64 6])) W) := Lib.hid (fun W hb => parse_no (fun t h => h0 (by rw [← HRv.out t h]; exact h.1)) hb)
    unfold PrintPost at HP
    rw [e1] at HP
    generalize (⟨(T.printL r).toArray⟩ : ByteArray) = S at HP
    clear e1 h0
    go_enter Tryd.func33, Tryd.ntmps33
    go_wp2_with fail
    refine (HR.out _).mono ?_
    rintro e w1 ⟨rfl, hb1⟩
    have HP1 := Lib.hid (HP.out w1 (HT.out.on hb1))
    go_wp2_with fail
    refine HP1.out.mono ?_
    rintro e w2 ⟨rfl, hb2⟩
    have hb12 := bt hb1 hb1.size hb2
    clear hb1 hb2
    go_wp2_with fail
    go_ret2
    exact HF.out _ hb12
end Go.Proofs.YtnehllkklmdpfaaDoor
