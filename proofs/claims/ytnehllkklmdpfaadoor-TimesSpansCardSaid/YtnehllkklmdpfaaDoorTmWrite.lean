/- Contracts of strings.Cut with one byte, of number, read, twoDigits, Print and Parse. -/
import Derived.Test.YtnehllkklmdpfaaDoorTmText
import Derived.Laws.BytesArg
import Derived.Lib.AppendIntMem
namespace Go.Proofs.YtnehllkklmdpfaaDoor
open Go.RowKit
set_option linter.unusedSimpArgs false
set_option maxRecDepth 100000
theorem mk_append (l m : List UInt8) : (⟨l.toArray⟩ : ByteArray) ++ (⟨m.toArray⟩ : ByteArray) = ⟨(l ++ m).toArray⟩ := ByteArray.mk_append_mk l m
theorem ret_str {a b : ByteArray} (h : b = a) : Ending.returned (.string a) = .returned (.string b) := by rw [h]
theorem ba_extract (l : List UInt8) (a b : Nat) : (⟨l.toArray⟩ : ByteArray).extract a b = ⟨((l.drop a).take (b - a)).toArray⟩ := by
  apply ByteArray.ext
  rw [ByteArray.data_extract]
  simp
def CutPost (l : List UInt8) (c : UInt8) (w : World) (e : Ending) (w' : World) : Prop := ∃ b, e = .returned (.tuple #[.string ⟨(T.before l c).toArray⟩, .string ⟨(T.after l c).toArray⟩, .bool b]) ∧ Below w.heap.size w w'
theorem T.index_spec : ∀ (l : List UInt8) (c : UInt8), (Lib.indexByte l c = -1 ∧ before l c = l ∧ after l c = []) ∨ (∃ k : Nat, Lib.indexByte l c = k ∧ k < l.length ∧ before l c = l.take k ∧ after l c = l.drop (k + 1))
  | [], c => Or.inl ⟨rfl, rfl, rfl⟩
  | b :: l, c => by
    unfold Lib.indexByte before after
    by_cases h : b = c
    · subst h
      refine Or.inr ⟨0, by simp, by simp, by simp, by simp⟩
    · have h1 : (b == c) = false := by simpa using h
      have h2 : (b != c) = true := by simpa using h
      rw [List.takeWhile_cons, List.dropWhile_cons, h1, h2]
      simp only [if_true, Bool.false_eq_true, if_false]
      rcases index_spec l c with ⟨i0, i1, i2⟩ | ⟨k, i0, i1, i2, i3⟩
      · unfold before after at *
        refine Or.inl ⟨by rw [i0]; rfl, by rw [i1], i2⟩
      · unfold before after at *
        refine Or.inr ⟨k + 1, ?_, by simp; omega, by rw [i2]; rfl, by rw [i3]; rfl⟩
        have hk : (Lib.indexByte l c == -1) = false := by rw [i0, beq_eq_false_iff_ne]; omega
        rw [hk, i0]
        simp
set_option maxHeartbeats 1000000 in
theorem LCut_any (l : List UInt8) (c : UInt8) (w : World) (hl : l.length ≤ 1000000) :
    Calls Tryd.prog 67 #[.string ⟨l.toArray⟩, .string ⟨#[c]⟩] w (CutPost l c w) := by
  have HI := Lib.hid (fun w => Tryd.stringslite_Index_one ⟨l.toArray⟩ c w)
  obtain ⟨m, hm⟩ : ∃ m, l.length = m := ⟨_, rfl⟩
  have hsz : (⟨l.toArray⟩ : ByteArray).size = m := by show l.toArray.size = m; simp [hm]
  have e0 : (⟨l.toArray⟩ : ByteArray).data.toList = l := by simp
  rw [e0] at HI
  have Hsz := Lib.hid hsz
  rcases T.index_spec l c with ⟨i0, i1, i2⟩ | ⟨k, i0, i1, i2, i3⟩
  · rw [i0] at HI
    have HF : Hid (∀ W, Below w.heap.size w W → CutPost l c w (.returned (.tuple #[.string ⟨l.toArray⟩, .string ⟨#[]⟩, .bool false])) W) := Lib.hid (fun W hb => ⟨false, by rw [i1, i2], hb⟩)
    clear i0 i1 i2 hm hsz e0
    go_enter Tryd.func67, Tryd.ntmps67
    go_wp2_with fail
    refine (HI.out _).mono ?_
    rintro e w' ⟨rfl, rfl⟩
    go_wp2_with fail
    go_ret3
    exact HF.out _ (Below.refl _ _)
  · rw [i0] at HI
    have hkm : k < m := by rw [← hm]; exact i1
    have HF : Hid (∀ W, Below w.heap.size w W → CutPost l c w (.returned (.tuple #[.string ((⟨l.toArray⟩ : ByteArray).extract 0 k), .string ((⟨l.toArray⟩ : ByteArray).extract (k + 1) m), .bool true])) W) := Lib.hid (fun W hb => ⟨true, by rw [i2, i3, ba_extract, ba_extract, ← hm, List.take_of_length_le (l := l.drop (k + 1)) (by rw [List.length_drop]; omega)]; simp, hb⟩)
    rw [hm] at hl
    have hw1 : IntKind.i64.wrap ((k : Int) + 1) = (k : Int) + 1 := IntWalk.i64_in _ (by omega)
    clear i0 i1 i2 i3 hm e0
    have hk1 : ((k : Int) + 1).toNat = k + 1 := by omega
    have hk2 : (k : Int) + 1 ≤ (m : Int) := by omega
    have hk3 : (k : Int) ≤ (m : Int) := by omega
    have hk4 : (0 : Int) ≤ (k : Int) + 1 := by omega
    go_enter Tryd.func67, Tryd.ntmps67
    go_wp2_with fail
    refine (HI.out _).mono ?_
    rintro e w' ⟨rfl, rfl⟩
    go_wp2_with fail
    go_quiet (fail)
    go_wp2_with fail
    go_ret3
    exact HF.out _ (below_dn (Below.refl _ _) _)
theorem Cut_any (l : List UInt8) (c : UInt8) (w : World) (hl : l.length ≤ 1000000) :
    Calls Tryd.prog 56 #[.string ⟨l.toArray⟩, .string ⟨#[c]⟩] w (CutPost l c w) := by
  have HC := Lib.hid (LCut_any l c w hl)
  go_enter Tryd.func56, Tryd.ntmps56
  go_wp2_with fail
  refine HC.out.mono ?_
  rintro e w' ⟨b, rfl, hb⟩
  have HF : Hid (CutPost l c w (.returned (.tuple #[.string ⟨(T.before l c).toArray⟩, .string ⟨(T.after l c).toArray⟩, .bool b])) w') := Lib.hid ⟨b, rfl, hb⟩
  clear hb
  go_wp2_with fail
  go_ret3
  exact HF.out
theorem T.numF_snoc (l : List UInt8) (n : Int) (k : Nat) (h : k < l.length) : numF n (l.take (k + 1)) = numStep (numF n (l.take k)) l[k] := by
  unfold numF
  rw [(List.take_append_getElem h).symm, List.foldl_append]
  rfl
set_option maxHeartbeats 1000000 in
theorem number_any (l : List UInt8) (w : World) (hl : l.length ≤ 1000000) :
    Calls Tryd.prog 57 #[.string ⟨l.toArray⟩] w fun e w' => e = .returned (.int .i64 (T.numF 0 l)) ∧ w = w' := by
  obtain ⟨m, hm⟩ : ∃ m, l.length = m := ⟨_, rfl⟩
  have hsz : (⟨l.toArray⟩ : ByteArray).size = m := by show l.toArray.size = m; simp [hm]
  have Hm := Lib.hid hm
  rw [hm] at hl
  clear hm
  go_enter Tryd.func57, Tryd.ntmps57
  go_wp2_with fail
  go_loop [3, 4] (fun n i => ∃ (k : Nat) (N : Int), k ≤ m ∧ i = .int .i64 k ∧ n = .int .i64 N ∧ Hid (N = T.numF 0 (l.take k))) (fun _ i => m - (intOf i).toNat)
  case atStart => exact ⟨0, 0, Nat.zero_le _, rfl, rfl, Lib.hid rfl⟩
  case round =>
    obtain ⟨k, N, hk, rfl, rfl, hN⟩ := hrel
    by_cases hlt : k < m
    · have hkf : k < l.length := by rw [Hm.out]; exact hlt
      have hks : k < (⟨l.toArray⟩ : ByteArray).size := by rw [hsz]; exact hlt
      have HS : Hid (wrap64 (wrap64 (wrap64 (N * 8) + wrap64 (N * 2)) + (((⟨l.toArray⟩ : ByteArray)[k].toNat : Int) - 48) % 256) = T.numF 0 (l.take (k + 1))) := Lib.hid (by
        rw [T.numF_snoc l 0 k hkf, ← hN.out]
        have e : (⟨l.toArray⟩ : ByteArray)[k] = l[k] := by show l.toArray[k] = l[k]; simp
        rw [e]
        unfold T.numStep
        rw [show ∀ z : Int, IntKind.u8.wrap z = z % 256 from fun z => by simp [IntKind.wrap, IntKind.bits, IntKind.signed]]
        simp only [IntKind.wrap_i64, wrap64])
      go_wp2_with fail
      go_round
      case rel => exact ⟨k + 1, _, by omega, by go_num, rfl, HS⟩
      case measure => simp [intOf]; omega
    · have HF : Hid (N = T.numF 0 l) := Lib.hid (by
        have := hN.out
        rwa [List.take_of_length_le (by rw [Hm.out]; omega)] at this)
      go_wp2_with fail
      go_ret
      rw [HF.out]
      exact ⟨rfl, rfl⟩
theorem before_len (l : List UInt8) (c : UInt8) : (T.before l c).length ≤ l.length := by
  unfold T.before
  exact (List.takeWhile_sublist _).length_le
theorem after_len (l : List UInt8) (c : UInt8) : (T.after l c).length ≤ l.length := by
  unfold T.after
  have := (List.dropWhile_sublist (l := l) (fun b => b != c)).length_le
  rw [List.length_drop]
  omega
set_option maxHeartbeats 1000000 in
theorem read_any (l : List UInt8) (w : World) (hl : l.length ≤ 1000000) :
    Calls Tryd.prog 48 #[.string ⟨l.toArray⟩] w fun e w' => e = .returned (.int .i64 (T.readV l)) ∧ Below w.heap.size w w' := by
  have k1 := after_len l 100
  have k2 := after_len (T.after l 100) 58
  have k3 := after_len (T.after (T.after l 100) 58) 58
  have b0 := before_len l 100
  have b1 := before_len (T.after l 100) 58
  have b2 := before_len (T.after (T.after l 100) 58) 58
  have HV := Lib.hid (show T.readV l = _ from rfl)
  have C0 := Lib.hid (fun w => Cut_any l 100 w hl)
  have C1 := Lib.hid (fun w => Cut_any (T.after l 100) 58 w (by omega))
  have C2 := Lib.hid (fun w => Cut_any (T.after (T.after l 100) 58) 58 w (by omega))
  have N0 := Lib.hid (fun w => number_any (T.before l 100) w (by omega))
  have N1 := Lib.hid (fun w => number_any (T.before (T.after l 100) 58) w (by omega))
  have N2 := Lib.hid (fun w => number_any (T.before (T.after (T.after l 100) 58) 58) w (by omega))
  have N3 := Lib.hid (fun w => number_any (T.after (T.after (T.after l 100) 58) 58) w (by omega))
  clear HV k1 k2 k3 b0 b1 b2
  obtain ⟨V, hV⟩ : ∃ V, T.readV l = V := ⟨_, rfl⟩
  rw [hV]
  unfold T.readV at hV
  generalize T.numF 0 (T.after (T.after (T.after l 100) 58) 58) = n3 at hV N3
  generalize T.numF 0 (T.before (T.after (T.after l 100) 58) 58) = n2 at hV N2
  generalize T.numF 0 (T.before (T.after l 100) 58) = n1 at hV N1
  generalize T.numF 0 (T.before l 100) = n0 at hV N0
  have HV := Lib.hid hV
  clear hV
  go_enter Tryd.func48, Tryd.ntmps48
  go_wp2_with fail
  refine (C0.out _).mono ?_
  rintro e w1 ⟨f0, rfl, hb1⟩
  go_wp2_with fail
  refine (C1.out _).mono ?_
  rintro e w2 ⟨f1, rfl, hb2⟩
  go_wp2_with fail
  refine (C2.out _).mono ?_
  rintro e w3 ⟨f2, rfl, hb3⟩
  go_wp2_with fail
  refine (N0.out _).mono ?_
  rintro e w' ⟨rfl, rfl⟩
  go_wp2_with fail
  refine (N1.out _).mono ?_
  rintro e w' ⟨rfl, rfl⟩
  go_wp2_with fail
  refine (N2.out _).mono ?_
  rintro e w' ⟨rfl, rfl⟩
  go_wp2_with fail
  refine (N3.out _).mono ?_
  rintro e w' ⟨rfl, rfl⟩
  go_wp2_with fail
  go_ret
  refine ⟨?_, bt (bt hb1 hb1.size hb2) (bt hb1 hb1.size hb2).size hb3⟩
  rw [← HV.out]
  simp only [IntKind.wrap_i64, wrap64]
  rfl
end Go.Proofs.YtnehllkklmdpfaaDoor
