/- Contracts of the reference's escaped, Quote, quoted and Unquote. -/
import Derived.Test.YtbjfpmklmhgbdaaDoorWordsQuote
import Derived.Lib.AppendStr
namespace Go.Proofs.YtbjfpmklmhgbdaaDoor
open Go.RowKit
/-- The string of two bytes. -/
def W.twoB (a b : Int) : ByteArray := ⟨#[UInt8.ofNat a.toNat, UInt8.ofNat b.toNat]⟩
theorem twoB_size (a b : Int) : (W.twoB a b).size = 2 := rfl
theorem conv_two (w : World) (a b : Int) (cap : Nat) : (convert 38 9 (.slice (some ⟨w.heap.size, 0, none⟩) 2 cap)).run Tryd.prog (w.alloc (.cells #[.int .u8 a, .int .u8 b] 5)) = .ok (.string (W.twoB a b)) (w.alloc (.cells #[.int .u8 a, .int .u8 b] 5)) :=
  run_convert_bytes_arg _ 38 5 Tryd.underlying38 Tryd.underlying5 w.heap.size 0 2 cap [a, b] rfl (fun i hi => by
    match i, hi with
    | 0, _ => simp [World.cell?_alloc_new]
    | 1, _ => simp [World.cell?_alloc_new]) 9 Tryd.underlying9
theorem hex_any (n : Nat) (h : n < 16) (w : World) :
    Calls Tryd.prog 65 #[.int .u8 (n : Int)] w fun e w' => e = .returned (.int .u8 ((W.hexD n).toNat : Int)) ∧ w = w' := by
  have hi := index_hex n h
  go_enter Tryd.func65, Tryd.ntmps65
  go_wp2_with fail
  go_ret
  exact ⟨rfl, rfl⟩

set_option maxRecDepth 100000 in
set_option maxHeartbeats 1000000 in
theorem escaped_any (u : UInt8) (w : World) :
    Calls Tryd.prog 41 #[.int .u8 (u.toNat : Int)] w fun e w' => e = .returned (.string ⟨(W.escB u).toArray⟩) ∧ Below w.heap.size w w' := by
  by_cases h1 : W.isP (u.toNat : Int) = true
  · have he : W.escB u = [u] := by unfold W.escB; rw [if_pos h1]
    have hcv0 := conv_alloc
    rw [he]
    clear he
    go_enter Tryd.func41, Tryd.ntmps41
    go_wp2_with (first | (go_at_call 64; refine (plain_any _ _).mono ?_; rintro e w' ⟨rfl, rfl⟩))
    go_ret
    exact ⟨ret_str (by unfold W.oneB; simp), (Below.refl _ _).alloc (Nat.le_refl _) _⟩
  by_cases h2 : W.letB (u.toNat : Int) = true
  · obtain ⟨c, hc⟩ : ∃ c, ((u.toNat : Nat) : Int) = c := ⟨_, rfl⟩
    have he : W.escB u = [92, UInt8.ofNat (W.letN c).toNat] := by unfold W.escB; rw [if_neg h1, if_pos h2, hc]
    rw [he, hc]
    rw [hc] at h1 h2
    clear he hc
    have hx : c = 34 ∨ c = 92 ∨ c = 10 ∨ c = 13 ∨ c = 9 := by simpa [W.letB, or_assoc] using h2
    clear h2
    rcases hx with rfl | rfl | rfl | rfl | rfl
    all_goals
      go_enter Tryd.func41, Tryd.ntmps41
      go_wp2_with (first | (go_at_call 64; refine (plain_any _ _).mono ?_; rintro e w' ⟨rfl, rfl⟩))
      go_ret
      exact ⟨rfl, Below.refl _ _⟩
  · have h2' : ∀ k : Int, (k = 34 ∨ k = 92 ∨ k = 10 ∨ k = 13 ∨ k = 9) → (((u.toNat : Nat) : Int) == k) = false := fun k hk => by
      rw [beq_eq_false_iff_ne]
      intro e
      apply h2
      rw [e]
      rcases hk with rfl | rfl | rfl | rfl | rfl <;> decide
    have k1 := h2' 34 (by simp)
    have k2 := h2' 92 (by simp)
    have k3 := h2' 10 (by simp)
    have k4 := h2' 13 (by simp)
    have k5 := h2' 9 (by simp)
    have he := W.escB_hex h1 h2
    have hu := u.toNat_lt
    have htw := conv_two
    rw [he]
    clear he h2' h2
    obtain ⟨q, hq0⟩ : ∃ q, u.toNat / 16 = q := ⟨_, rfl⟩
    obtain ⟨r, hr0⟩ : ∃ r, u.toNat % 16 = r := ⟨_, rfl⟩
    have hq : ((u.toNat : Nat) : Int) / 16 = (q : Int) := by omega
    have hqw : IntKind.u8.wrap (q : Int) = (q : Int) := by simp [IntKind.wrap, IntKind.bits, IntKind.signed]; omega
    have hr : ((u.toNat : Nat) : Int).tmod 16 = (r : Int) := by rw [Int.tmod_eq_emod_of_nonneg (by omega)]; omega
    have hq16 : q < 16 := by omega
    have hr16 : r < 16 := by omega
    have hone := twoB_size ((W.hexD q).toNat : Int) ((W.hexD r).toNat : Int)
    rw [hq0, hr0]
    clear hq0 hr0
    go_enter Tryd.func41, Tryd.ntmps41
    go_wp2_with fail
    refine (plain_any _ _).mono ?_
    rintro e w' ⟨rfl, rfl⟩
    go_wp2_with fail
    refine (hex_any q hq16 _).mono ?_
    rintro e w' ⟨rfl, rfl⟩
    go_wp2_with fail
    refine (hex_any r hr16 _).mono ?_
    rintro e w' ⟨rfl, rfl⟩
    go_wp2_with fail
    go_ret
    refine ⟨ret_str ?_, (Below.refl _ _).alloc (Nat.le_refl _) _⟩
    have e1 : W.twoB ((W.hexD q).toNat : Int) ((W.hexD r).toNat : Int) = ⟨([W.hexD q, W.hexD r] : List UInt8).toArray⟩ := by unfold W.twoB; simp
    rw [e1]
    exact (mk_append [92, 120] [W.hexD q, W.hexD r]).symm

theorem strCells_eq (s : ByteArray) : Lib.strCells s = s.data.toList.map byteV := by
  unfold Lib.strCells
  rfl

set_option maxRecDepth 100000 in
set_option maxHeartbeats 2000000 in
theorem RQuote_any (s : ByteArray) (w : World) (hs : s.size ≤ 17592186044416) :
    Calls Tryd.prog 20 #[.string s] w fun e w' => e = .returned (.string ⟨(34 :: (W.escS s.data.toList ++ [34])).toArray⟩) ∧ Below w.heap.size w w' := by
  obtain ⟨i0, hi, hz0, hz1, hz2⟩ := info_parts info_u8
  go_enter Tryd.func20, Tryd.ntmps20
  go_wp2_with fail
  go_loopw [3, 4] (fun v i wr => ∃ k : Nat, k ≤ s.size ∧ i = .int .i64 k ∧ wr.ownsRow w.heap.size 5 1 v (34 :: W.escS (s.data.toList.take k)).length ((34 :: W.escS (s.data.toList.take k)).map byteV) ∧ Below w.heap.size w wr) (fun _ i _ => s.size - (intOf i).toNat)
  case atStart => exact ⟨0, Nat.zero_le _, rfl, by simpa [byteV, W.escS] using World.ownsRow_lit (base := w.heap.size) (e := 5) (size := 1) w #[.int .u8 34] 1 (Nat.le_refl _) (by decide) rfl, (Below.refl _ _).alloc (Nat.le_refl _) _⟩
  case round =>
    obtain ⟨k, hk, rfl, hown, hbel⟩ := hrel
    have hlen := W.escS_len (s.data.toList.take k)
    have hlen2 : (s.data.toList.take k).length ≤ k := List.length_take_le _ _
    obtain ⟨bs, hbs⟩ : ∃ bs, 34 :: W.escS (s.data.toList.take k) = bs := ⟨_, rfl⟩
    have hbl : bs.length ≤ 4 * k + 1 := by rw [← hbs, List.length_cons]; omega
    rw [hbs] at hown
    have Hbs := Lib.hid hbs
    have hsz' := hbel.size
    clear hbs hlen hlen2
    by_cases hlt : k < s.size
    · have hle4 := W.escB_le s[k]
      obtain ⟨l, hl⟩ : ∃ l, W.escB s[k] = l := ⟨_, rfl⟩
      have Hl := Lib.hid hl
      rw [hl] at hle4
      have hesc : ∀ w : World, Calls Tryd.prog 41 #[.int .u8 (s[k].toNat : Int)] w fun e w' => e = .returned (.string ⟨l.toArray⟩) ∧ Below w.heap.size w w' := fun w => by
        rw [← hl]; exact escaped_any s[k] w
      have Hesc := Lib.hid hesc
      clear hl hesc
      go_wp2_with (first | (go_at_call 41; refine (Hesc.out _).mono ?_; rintro e w1 ⟨rfl, hb1⟩; have hown1 := own_below hown hb1; have hbel1 := bt hbel hb1) | (at_builtin; refine Lib.wpList_append_own_string _ rfl _ _ 38 9 rfl w.heap.size 5 i0 Tryd.underlying38 Tryd.underlying9 hi hz0 hz1 hz2 _ _ _ rfl hown1 ⟨l.toArray⟩ rfl ?c3 ?c4 ?c5 ?_))
      case c3 =>
        show bs.length + l.length ≤ maxLen
        unfold maxLen
        omega
      case c4 =>
        show bs.length + l.length ≤ 140737488355328
        omega
      case c5 => exact hbel1.size
      · intro v' w2 hown' hgrow _
        have hown2 : w2.ownsRow w.heap.size 5 1 v' (bs ++ l).length ((bs ++ l).map byteV) := by
          rw [strCells_eq] at hown'
          rw [List.length_append, List.map_append]
          exact hown'
        have hbel2 : Below w.heap.size w w2 := hbel1.grown hgrow hbel1.size (fun j hj => (hown.lt j hj).1)
        clear hown'
        go_wp2_with fail
        go_roundw
        case rel => exact ⟨k + 1, by omega, by go_num, by rw [W.escS_take hlt, ← List.cons_append, Hbs.out, Hl.out]; exact hown2, hbel2⟩
        case measure => simp [intOf]; omega
    · have hks : k = s.size := by omega
      have Hks := Lib.hid hks
      have hbl2 : bs.length ≤ 4 * s.size + 1 := by omega
      clear hks
      go_wp2_with (first | (at_builtin; refine wpList_append_own _ rfl _ _ 38 rfl w.heap.size 5 i0 (.int .u8 0) 1 1 Tryd.underlying38 hi hz0 hz1 hz2 rfl (by decide) _ _ _ rfl (hown.alloc _) ⟨wr.heap.size, 0, none⟩ 1 1 [.int .u8 34] rfl rfl ?d1 ?d2 ?d3 ?d4 ?d5 ?_))
      case d1 =>
        intro j x hj
        match j, hj with
        | 0, hj => simp at hj; subst hj; simp [Addr.add]
      case d2 => intro x hx; simp at hx; subst hx; rfl
      case d3 => unfold maxLen; omega
      case d4 => omega
      case d5 => simp; omega
      · intro v' w2 hown' hgrow _
        have hconv := conv_own (bs := bs ++ [34]) (by simpa [byteV] using hown')
        go_wp2_with fail
        go_ret
        exact ⟨ret_str (by rw [← Hbs.out, Hks.out, show s.data.toList.take s.size = s.data.toList from List.take_of_length_le (Nat.le_refl _)]; rfl), (hbel.alloc hsz' _).grown hgrow (by simp; omega) (fun j hj => (hown.lt j hj).1)⟩

end Go.Proofs.YtbjfpmklmhgbdaaDoor
