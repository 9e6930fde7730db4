/- Contracts of words.appendEscaped and words.Quote. -/
import Derived.Test.YtbjfpmklmhgbdaaDoorWordsUnq
import Derived.Deep.RegionHeld3
import Derived.Deep.AppendLies
namespace Go.Proofs.YtbjfpmklmhgbdaaDoor
open Go.RowKit
theorem EscIn.belowB {w w1 : World} {B : Nat} (h : EscIn w) (hb : Below B w w1) (h0 : 0 < B) : EscIn w1 := by
  obtain ⟨t, fr, h⟩ := h
  exact ⟨t, fr, (hb.block 0 h0).trans h⟩

namespace W
theorem escB_hex {u : UInt8} (h1 : ¬ isP (u.toNat : Int) = true) (h2 : ¬ letB (u.toNat : Int) = true) : escB u = [92, 120, hexD (u.toNat / 16), hexD (u.toNat % 16)] := by
  unfold escB
  rw [if_neg h1, if_neg h2]
theorem escB_le (u : UInt8) : (escB u).length ≤ 4 := by unfold escB; split; simp; split <;> simp
theorem escS_len : ∀ (b : List UInt8), (escS b).length ≤ 4 * b.length
  | [] => by simp [escS]
  | c :: b => by
    have h1 := escS_len b
    have h2 := escB_le c
    simp only [escS, List.flatMap_cons, List.length_append, List.length_cons] at *
    omega
theorem escS_take {s : ByteArray} {k : Nat} (h : k < s.size) : escS (s.data.toList.take (k + 1)) = escS (s.data.toList.take k) ++ escB s[k] := by
  rw [List.take_succ_eq_append_getElem (by exact h), escS_snoc]
  rfl
theorem and_15 (u : UInt8) : bits BinOp.and IntKind.u8 (u.toNat : Int) 15 = (u.toNat : Int) % 16 := by
  have h : ∀ n : Nat, n < 256 → bits BinOp.and IntKind.u8 (n : Int) 15 = (n : Int) % 16 := by decide +kernel
  exact h u.toNat (by have := u.toNat_lt; omega)
end W
set_option maxRecDepth 100000 in
theorem index_hex (n : Nat) (h : n < 16) (w : World) : (Instr.index 9 (.string { data := #[48, 49, 50, 51, 52, 53, 54, 55, 56, 57, 97, 98, 99, 100, 101, 102] }) (.int .u8 (n : Int))).run Tryd.prog w = .ok (.int .u8 ((W.hexD n).toNat : Int)) w := by
  have : n = 0 ∨ n = 1 ∨ n = 2 ∨ n = 3 ∨ n = 4 ∨ n = 5 ∨ n = 6 ∨ n = 7 ∨ n = 8 ∨ n = 9 ∨ n = 10 ∨ n = 11 ∨ n = 12 ∨ n = 13 ∨ n = 14 ∨ n = 15 := by omega
  rcases this with rfl | rfl | rfl | rfl | rfl | rfl | rfl | rfl | rfl | rfl | rfl | rfl | rfl | rfl | rfl | rfl
  all_goals rfl

set_option maxRecDepth 100000 in
set_option maxHeartbeats 2000000 in
theorem appendEscaped_any (B : Nat) (v : Value) (bs : List UInt8) (u : UInt8) (w : World) (hE : EscIn w) (hB : B ≤ w.heap.size) (hown : w.ownsRow B 5 1 v bs.length (bs.map byteV)) (hlen : bs.length + 4 ≤ 140737488355328) :
    Calls Tryd.prog 40 #[v, .int .u8 (u.toNat : Int)] w fun e w' => ∃ v', e = .returned v' ∧ w'.ownsRow B 5 1 v' (bs ++ W.escB u).length ((bs ++ W.escB u).map byteV) ∧ Below B w w' := by
  obtain ⟨i0, hi, hz0, hz1, hz2⟩ := info_parts info_u8
  by_cases h1 : W.isP (u.toNat : Int) = true
  · have he : W.escB u = [u] := by unfold W.escB; rw [if_pos h1]
    rw [he]
    clear he
    go_enter Tryd.func40, Tryd.ntmps40
    go_wp2_with (first | (go_at_call 62; refine (isPlain_any _ _).mono ?_; rintro e w' ⟨rfl, rfl⟩) | (at_builtin; refine wpList_append_own _ rfl _ _ 38 rfl B 5 i0 (.int .u8 0) 1 1 Tryd.underlying38 hi hz0 hz1 hz2 rfl (by decide) _ _ _ rfl (hown.alloc _) ⟨w.heap.size, 0, none⟩ 1 1 [byteV u] rfl rfl ?c1 ?c2 ?c3 ?c4 ?c5 ?_))
    case c1 =>
      intro j x hj
      match j, hj with
      | 0, hj => simp at hj; subst hj; simp [Addr.add, byteV]
    case c2 => intro x hx; simp at hx; subst hx; rfl
    case c3 => unfold maxLen; omega
    case c4 => omega
    case c5 => simp; omega
    · intro v' w2 hown' hgrow _
      go_wp2_with fail
      go_ret
      exact ⟨v', rfl, by simpa using hown', ((Below.refl _ _).alloc hB _).grown hgrow (by simp; omega) (fun j hj => (hown.lt j hj).1)⟩
  · have hsz : 0 < w.heap.size := by obtain ⟨t, fr, h⟩ := hE; exact Nat.lt_of_le_of_lt (Nat.zero_le _) (Array.getElem?_eq_some_iff.1 h).1
    by_cases h2 : W.letB (u.toNat : Int) = true
    · have he : W.escB u = [92, UInt8.ofNat (W.letN (u.toNat : Int)).toNat] := by unfold W.escB; rw [if_neg h1, if_pos h2]
      have hl : byteV (UInt8.ofNat (W.letN (u.toNat : Int)).toNat) = .int .u8 (W.letN (u.toNat : Int)) := by
        have : ∀ c : Int, 0 ≤ W.letN c ∧ W.letN c < 256 := fun c => by unfold W.letN; repeat (split; omega); omega
        have := this (u.toNat : Int)
        unfold byteV
        rw [UInt8.toNat_ofNat_of_lt' (by show _ < 256; omega), Int.toNat_of_nonneg this.1]
      rw [he]
      have Hl := Lib.hid hl
      clear he hl
      go_enter Tryd.func40, Tryd.ntmps40
      go_wp2_with (first | (go_at_call 62; refine (isPlain_any _ _).mono ?_; rintro e w' ⟨rfl, rfl⟩) | (go_at_call 63; refine (letterOf_any _ _ hE).mono ?_; rintro e w1 ⟨rfl, hb⟩; have hown1 := own_below hown hb; have hsz1 := hb.size) | (at_builtin; refine wpList_append_own _ rfl _ _ 38 rfl B 5 i0 (.int .u8 0) 1 1 Tryd.underlying38 hi hz0 hz1 hz2 rfl (by decide) _ _ _ rfl (hown1.alloc _) ⟨w1.heap.size, 0, none⟩ 2 2 [.int .u8 92, .int .u8 (W.letN (u.toNat : Int))] rfl rfl ?d1 ?d2 ?d3 ?d4 ?d5 ?_))
      case d1 =>
        intro j x hj
        match j, hj with
        | 0, hj => simp at hj; subst hj; simp [Addr.add]
        | 1, hj => simp at hj; subst hj; simp [Addr.add]
      case d2 => intro x hx; simp at hx; rcases hx with rfl | rfl <;> rfl
      case d3 => unfold maxLen; omega
      case d4 => omega
      case d5 => simp; omega
      · intro v' w2 hown' hgrow _
        go_wp2_with fail
        go_ret
        exact ⟨v', rfl, by rw [List.map_append, List.map_cons, List.map_cons, Hl.out, show byteV 92 = Value.int .u8 92 from rfl]; simpa using hown', ((((hb.mono hB)).alloc (by omega) _).grown hgrow (by simp; omega) (fun j hj => (hown1.lt j hj).1))⟩
    · have h2' : W.letB (u.toNat : Int) = false := by simpa using h2
      have hu := u.toNat_lt
      have hand := W.and_15 u
      have hi1 : ∀ w, (Instr.index 9 (.string { data := #[48, 49, 50, 51, 52, 53, 54, 55, 56, 57, 97, 98, 99, 100, 101, 102] }) (.int .u8 ((u.toNat : Int) / 16))).run Tryd.prog w = .ok (.int .u8 ((W.hexD (u.toNat / 16)).toNat : Int)) w := index_hex (u.toNat / 16) (by omega)
      have hi2 : ∀ w, (Instr.index 9 (.string { data := #[48, 49, 50, 51, 52, 53, 54, 55, 56, 57, 97, 98, 99, 100, 101, 102] }) (.int .u8 ((u.toNat : Int) % 16))).run Tryd.prog w = .ok (.int .u8 ((W.hexD (u.toNat % 16)).toNat : Int)) w := index_hex (u.toNat % 16) (by omega)
      go_enter Tryd.func40, Tryd.ntmps40
      go_wp2_with (first | (go_at_call 62; refine (isPlain_any _ _).mono ?_; rintro e w' ⟨rfl, rfl⟩) | (go_at_call 63; refine (letterOf_any _ _ hE).mono ?_; rintro e w1 ⟨rfl, hb⟩; have hown1 := own_below hown hb; have hsz1 := hb.size))
      go_region_held3 (fun _ => True) (exact trivial)
        ((refine step_append_lies _ (by rfl) _ _ _ (by rfl) B 5 i0 _ 1 1 Tryd.underlying38 hi hz0 hz1 hz2 rfl (by omega) v bs.length (bs.map byteV) (by rfl) ((hown1.alloc _).drew)
              ⟨w1.heap.size, 0, none⟩ 4 4 [.int .u8 92, .int .u8 120, .int .u8 ((W.hexD (u.toNat / 16)).toNat : Int), .int .u8 ((W.hexD (u.toNat % 16)).toNat : Int)] (by rfl) (by rfl) (World.news_of_block (cs := #[.int .u8 92, .int .u8 120, .int .u8 ((W.hexD (u.toNat / 16)).toNat : Int), .int .u8 ((W.hexD (u.toNat % 16)).toNat : Int)]) (t := 5) (fr := (0, 0)) (heap_alloc_new w1 _)) (by simp [Value.oneCell'])
              (by omega) (by unfold maxLen; omega) (by omega) (by simp; omega) (w1.heap.size + 1) (by simp) ?_; intro gg cap w2 hown2 hgrow hat hlt))
      all_goals
        go_wp2_with fail
        go_ret
        refine ⟨_, rfl, ?_, (((hb.mono hB).alloc (by omega) _).drew).grown hgrow (by simp; omega) (fun j hj => (hown1.lt j hj).1)⟩
        rw [W.escB_hex h1 h2, List.length_append, List.map_append]
        exact hown2

set_option maxRecDepth 100000 in
set_option maxHeartbeats 2000000 in
theorem Quote_any (s : ByteArray) (w : World) (hE : EscIn w) (hs : s.size ≤ 17592186044416) :
    Calls Tryd.prog 19 #[.string s] w fun e w' => e = .returned (.string ⟨(34 :: (W.escS s.data.toList ++ [34])).toArray⟩) ∧ Below w.heap.size w w' := by
  have hsz : 0 < w.heap.size := by obtain ⟨t, fr, h⟩ := hE; exact Nat.lt_of_le_of_lt (Nat.zero_le _) (Array.getElem?_eq_some_iff.1 h).1
  obtain ⟨i0, hi, hz0, hz1, hz2⟩ := info_parts info_u8
  go_enter Tryd.func19, Tryd.ntmps19
  go_wp2_with fail
  go_loopw [3, 4] (fun v i wr => ∃ k : Nat, k ≤ s.size ∧ i = .int .i64 k ∧ wr.ownsRow w.heap.size 5 1 v (34 :: W.escS (s.data.toList.take k)).length ((34 :: W.escS (s.data.toList.take k)).map byteV) ∧ Below w.heap.size w wr) (fun _ i _ => s.size - (intOf i).toNat)
  case atStart => exact ⟨0, Nat.zero_le _, rfl, by simpa [byteV, W.escS] using World.ownsRow_lit (base := w.heap.size) (e := 5) (size := 1) w #[.int .u8 34] 1 (Nat.le_refl _) (by decide) rfl, (Below.refl _ _).alloc (Nat.le_refl _) _⟩
  case round =>
    obtain ⟨k, hk, rfl, hown, hbel⟩ := hrel
    have hlen := W.escS_len (s.data.toList.take k)
    have hlen2 : (s.data.toList.take k).length ≤ k := List.length_take_le _ _
    obtain ⟨bs, hbs⟩ : ∃ bs, 34 :: W.escS (s.data.toList.take k) = bs := ⟨_, rfl⟩
    have hbl : bs.length ≤ 4 * k + 1 := by rw [← hbs, List.length_cons]; omega
    rw [hbs] at hown
    have Hbs := Lib.hid hbs
    have hE' := hE.below hbel
    have hsz' := hbel.size
    clear hbs hlen hlen2
    by_cases hlt : k < s.size
    · go_wp2_with (first | (go_at_call 40; refine (appendEscaped_any w.heap.size _ bs s[k] _ hE' hsz' hown (by omega)).mono ?_; rintro e w1 ⟨v', rfl, hown1, hb1⟩))
      go_roundw
      case rel => exact ⟨k + 1, by omega, by go_num, by rw [W.escS_take hlt, ← List.cons_append, Hbs.out]; exact hown1, hbel.trans hb1⟩
      case measure => simp [intOf]; omega
    · have hks : k = s.size := by omega
      have Hks := Lib.hid hks
      have hbl2 : bs.length ≤ 4 * s.size + 1 := by omega
      clear hks
      go_wp2_with (first | (at_builtin; refine wpList_append_own _ rfl _ _ 38 rfl w.heap.size 5 i0 (.int .u8 0) 1 1 Tryd.underlying38 hi hz0 hz1 hz2 rfl (by decide) _ _ _ rfl (hown.alloc _) ⟨wr.heap.size, 0, none⟩ 1 1 [.int .u8 34] rfl rfl ?c1 ?c2 ?c3 ?c4 ?c5 ?_))
      case c1 =>
        intro j x hj
        match j, hj with
        | 0, hj => simp at hj; subst hj; simp [Addr.add]
      case c2 => intro x hx; simp at hx; subst hx; rfl
      case c3 => unfold maxLen; omega
      case c4 => omega
      case c5 => simp; omega
      · intro v' w2 hown' hgrow _
        have hconv := conv_own (bs := bs ++ [34]) (by simpa [byteV] using hown')
        go_wp2_with fail
        go_ret
        exact ⟨ret_str (by rw [← Hbs.out, Hks.out, show s.data.toList.take s.size = s.data.toList from List.take_of_length_le (Nat.le_refl _)]; rfl), (hbel.alloc hsz' _).grown hgrow (by simp; omega) (fun j hj => (hown.lt j hj).1)⟩

end Go.Proofs.YtbjfpmklmhgbdaaDoor
