/- Contract of GetVar of package ints. -/
import Derived.Test.YthopdpgjfmpgkaaIntsPut
namespace Go.Proofs.Ythopdpgjfmpgkaa
open Go.RowKit
namespace I
/-- The byte at a place, as a number. -/
def at' (l : List UInt8) (j : Nat) : Nat := (l.getD j 0).toNat
theorem at_eq {l : List UInt8} {j : Nat} (h : j < l.length) : (l[j]).toNat = at' l j := by
  unfold at'; rw [List.getD_eq_getElem?_getD, List.getElem?_eq_getElem h]; rfl
theorem at_lt (l : List UInt8) (j : Nat) : at' l j < 256 := UInt8.toNat_lt _
/-- The number of bytes of seven bits, the lowest first. -/
def vv : List UInt8 → Nat
  | [] => 0
  | c :: r => c.toNat % 128 + 128 * vv r
theorem vv_snoc (l : List UInt8) (c : UInt8) : vv (l ++ [c]) = vv l + c.toNat % 128 * 128 ^ l.length := by
  induction l with
  | nil => simp [vv]
  | cons x r ih =>
    simp only [List.cons_append, vv, ih, List.length_cons, Nat.pow_succ]
    rw [Nat.mul_add]
    have : 128 * (c.toNat % 128 * 128 ^ r.length) = c.toNat % 128 * (128 ^ r.length * 128) := by ac_rfl
    omega
theorem vv_lt (l : List UInt8) : vv l < 128 ^ l.length := by
  induction l with
  | nil => simp [vv]
  | cons x r ih => simp only [vv, List.length_cons, Nat.pow_succ]; omega
theorem take_snoc {l : List UInt8} {k : Nat} (h : k < l.length) : l.take (k + 1) = l.take k ++ [l[k]] := (List.take_append_getElem h).symm
theorem pow_128 (k : Nat) : 128 ^ k = 2 ^ (7 * k) := by rw [Nat.pow_mul]
theorem vv_step {l : List UInt8} {k : Nat} (h : k < l.length) : vv (l.take (k + 1)) = vv (l.take k) + at' l k % 128 * 2 ^ (7 * k) := by
  rw [take_snoc h, vv_snoc, at_eq h, pow_128, List.length_take, Nat.min_eq_left (Nat.le_of_lt h)]
theorem vv_bd {l : List UInt8} {k : Nat} (h : k ≤ l.length) : vv (l.take k) < 2 ^ (7 * k) := by
  have := vv_lt (l.take k)
  rwa [List.length_take, Nat.min_eq_left h, pow_128] at this
theorem at_u8 {l : List UInt8} {j : Nat} {u : UInt8} (h : l[j]? = some u) : u.toNat = at' l j := by
  obtain ⟨h1, h2⟩ := List.getElem?_eq_some_iff.1 h
  rw [← h2, at_eq h1]
/-- What GetVar returns: the number, what is left, the error. -/
def GV (l : List UInt8) (N : Nat) (r : List UInt8) (E : Int) : Prop :=
  ∃ k, k ≤ l.length ∧ (∀ j, j < k → 128 ≤ at' l j) ∧
    ((k = l.length ∧ k ≤ 9 ∧ N = 0 ∧ r = [] ∧ E = 10) ∨
     (k = 9 ∧ 9 < l.length ∧ 1 < at' l 9 ∧ N = 0 ∧ r = [] ∧ E = 7) ∨
     (k < l.length ∧ k ≤ 9 ∧ at' l k < 128 ∧ (k = 9 → at' l 9 ≤ 1) ∧ 0 < k ∧ at' l k = 0 ∧ N = 0 ∧ r = [] ∧ E = 6) ∨
     (k < l.length ∧ k ≤ 9 ∧ at' l k < 128 ∧ (k = 9 → at' l 9 ≤ 1) ∧ (0 < k → at' l k ≠ 0) ∧ N = vv (l.take (k + 1)) ∧ r = l.drop (k + 1) ∧ E = 0))
theorem gv_unique {l : List UInt8} {N N' : Nat} {r r' : List UInt8} {E E' : Int} (h : GV l N r E) (h' : GV l N' r' E') : N = N' ∧ r = r' ∧ E = E' := by
  obtain ⟨k, hk, ha, h⟩ := h
  obtain ⟨k', hk', ha', h'⟩ := h'
  have hkk : k = k' ∨ k < k' ∨ k' < k := by omega
  have c1 : k < k' → 128 ≤ at' l k := ha' k
  have c2 : k' < k → 128 ≤ at' l k' := ha k'
  rcases h with ⟨h1, h2, h3, h4, h5⟩ | ⟨h1, h2, h3, h4, h5, h6⟩ | ⟨h1, h2, h3, h4, h5, h6, h7, h8, h9⟩ | ⟨h1, h2, h3, h4, h5, h6, h7, h8⟩ <;>
    rcases h' with ⟨g1, g2, g3, g4, g5⟩ | ⟨g1, g2, g3, g4, g5, g6⟩ | ⟨g1, g2, g3, g4, g5, g6, g7, g8, g9⟩ | ⟨g1, g2, g3, g4, g5, g6, g7, g8⟩
  all_goals
    first
      | (exact ⟨by omega, by rw [h4, g4], by omega⟩)
      | (exact ⟨by omega, by rw [h5, g5], by omega⟩)
      | (exact ⟨by omega, by rw [h8, g8], by omega⟩)
      | (exfalso; rcases hkk with rfl | hlt | hlt <;> (try have := c1 hlt) <;> (try have := c2 hlt) <;> (try subst h1) <;> (try subst g1) <;> omega)
      | (rcases hkk with rfl | hlt | hlt
         · exact ⟨by rw [h6, g6], by rw [h7, g7], by rw [h8, g8]⟩
         · have := c1 hlt; omega
         · have := c2 hlt; omega)
theorem gv_nil : GV [] 0 [] 10 := ⟨0, by simp, fun j h => by omega, Or.inl ⟨rfl, by omega, rfl, rfl, rfl⟩⟩
theorem low7 (x : Nat) (h : x < 256) : bits .andNot .u8 (x : Int) 128 = ((x % 128 : Nat) : Int) := by
  have := u8_andNot_nat x 128 h (by decide)
  rw [show (255 - 128 : Nat) = 2 ^ 7 - 1 by decide, Nat.and_two_pow_sub_one_eq_mod] at this
  exact this
end I
namespace I
theorem or_add {N k c : Nat} (hN : N < 2 ^ k) : N ||| (c * 2 ^ k) = N + c * 2 ^ k := by
  have := Nat.two_pow_add_eq_or_of_lt hN c
  rw [Nat.mul_comm, Nat.or_comm, ← this]; omega
theorem or_form {N k c : Nat} (hN : N < 2 ^ k) (h : N + c * 2 ^ k < 18446744073709551616) : bits .or .u64 (N : Int) (IntKind.u64.wrap ((c : Int) * 2 ^ k)) = ((N + c * 2 ^ k : Nat) : Int) := by
  rw [cast_pow, wrap_u64, ← Int.natCast_mul]
  have e : ((c * 2 ^ k : Nat) : Int) % 18446744073709551616 = ((c * 2 ^ k : Nat) : Int) := Int.emod_eq_of_lt (by omega) (by omega)
  rw [e, u64_or_nat _ _ (by omega) (by omega), or_add hN]
theorem acc_lt {N k x : Nat} (hN : N < 2 ^ (7 * k)) (hk : k ≤ 9) (hx : x < 128) (h9 : k = 9 → x ≤ 1) : N + x * 2 ^ (7 * k) < 18446744073709551616 := by
  by_cases h : k = 9
  · subst h
    have e : (2 : Nat) ^ (7 * 9) = 9223372036854775808 := by decide
    rw [e] at hN ⊢
    have := h9 rfl
    omega
  · have h1 : 2 ^ (7 * k) ≤ 2 ^ 56 := Nat.pow_le_pow_right (by decide) (by omega)
    have h2 : x * 2 ^ (7 * k) ≤ 127 * 2 ^ (7 * k) := Nat.mul_le_mul_right _ (by omega)
    omega
theorem acc_next {N k x : Nat} (hN : N < 2 ^ (7 * k)) (hx : x < 128) : N + x * 2 ^ (7 * k) < 2 ^ (7 * (k + 1)) := by
  have e : 2 ^ (7 * (k + 1)) = 2 ^ (7 * k) * 128 := by rw [Nat.mul_add, Nat.pow_add]
  have h2 : x * 2 ^ (7 * k) ≤ 127 * 2 ^ (7 * k) := Nat.mul_le_mul_right _ (by omega)
  rw [e]; omega
theorem gv_form {N k x : Nat} (hx : x < 256) (hN : N < 2 ^ (7 * k)) (h : N + x % 128 * 2 ^ (7 * k) < 18446744073709551616) :
    bits .or .u64 (N : Int) (IntKind.u64.wrap (IntKind.u64.wrap (bits .andNot .u8 (x : Int) 128) * 2 ^ (7 * k))) = ((N + x % 128 * 2 ^ (7 * k) : Nat) : Int) := by
  have e : IntKind.u64.wrap (bits .andNot .u8 (x : Int) 128) = ((x % 128 : Nat) : Int) := by rw [low7 x hx, wrap_u64]; omega
  rw [e, or_form hN h]
end I
/-- What a call of GetVar leaves: a number, a slice, an error. -/
def GvPost (l : List UInt8) (w : World) (e : Ending) (w' : World) : Prop :=
  ∃ (N : Nat) (A' : Option Addr) (r : List UInt8) (c' : Nat) (E : Int), e = .returned (.tuple #[.int .u64 N, .slice A' r.length c', .int .i64 E]) ∧ BytesIn w' w.heap.size A' c' r ∧ I.GV l N r E ∧ N < 18446744073709551616 ∧ Below w.heap.size w w'
theorem gv_err {l : List UInt8} {w : World} {E : Int} (h : I.GV l 0 [] E) : GvPost l w (.returned (.tuple #[.int .u64 0, .slice none 0 0, .int .i64 E])) w :=
  ⟨0, none, [], 0, E, rfl, BytesIn.nil_ _ _, h, by decide, Below.refl _ _⟩
theorem gv_ok {l : List UInt8} {w w' : World} {M : Nat} {A' : Option Addr} {r : List UInt8} {n c' : Nat} (hn : r.length = n) (hin : BytesIn w' w.heap.size A' c' r) (hg : I.GV l M r 0) (hM : M < 18446744073709551616) (hb : Below w.heap.size w w') :
    GvPost l w (.returned (.tuple #[.int .u64 M, .slice A' n c', .int .i64 0])) w' := ⟨M, A', r, c', 0, by rw [hn], hin, hg, hM, hb⟩
theorem BytesIn.cut_far {w : World} {B : Nat} {ad : Addr} {c : Nat} {l : List UInt8} (h : BytesIn w B (some ad) c l) {k : Nat} (hk : k + 1 ≤ l.length) (hc : ¬ c = k + 1) :
    BytesIn w B (some { block := ad.block, off := ad.off + (k + 1) }) (c - (k + 1)) (l.drop (k + 1)) := by
  have := h.cut hk
  rw [if_neg hc] at this
  exact this
theorem BytesIn.cut_end {w : World} {B : Nat} {ad : Addr} {c : Nat} {l : List UInt8} (h : BytesIn w B (some ad) c l) {k : Nat} (hk : k ≤ l.length) (hc : c = k) :
    BytesIn w B (some ad) 0 (l.drop k) := by
  have := h.cut hk
  rw [if_pos hc, hc, Nat.sub_self] at this
  exact this
set_option maxHeartbeats 1000000 in
set_option maxRecDepth 100000 in
theorem GetVar_some (ad : Addr) (c : Nat) (l : List UInt8) (w : World) (hb : BytesIn w w.heap.size (some ad) c l) (hl : l.length ≤ 100000) :
    Calls Try.prog 17 #[.slice (some ad) l.length c] w (GvPost l w) := by
  have hlc := hb.le
  have hcm := hb.cap
  unfold maxLen at hcm
  go_enter Try.func17, Try.ntmps17
  go_wp2_with fail
  go_loop [2, 9] (fun n i => ∃ k N : Nat, k ≤ l.length ∧ k ≤ 9 ∧ i = .int .i64 k ∧ n = .int .u64 N ∧ N < 2 ^ (7 * k) ∧ Hid (N = I.vv (l.take k) ∧ ∀ j, j < k → 128 ≤ I.at' l j)) (fun _ i => l.length - (intOf i).toNat)
  case atStart => exact ⟨0, 0, Nat.zero_le _, Nat.zero_le _, rfl, rfl, by simp, Lib.hid ⟨rfl, fun j h => by omega⟩⟩
  case round =>
    obtain ⟨k, N, hk, hk9, rfl, rfl, hN, HN⟩ := hrel
    by_cases hlt : k < l.length
    · obtain ⟨ad', e', hc⟩ := hb.at_ hlt
      obtain rfl : ad = ad' := by injection e'
      rw [I.at_eq hlt] at hc
      obtain ⟨x, hx⟩ : ∃ x, I.at' l k = x := ⟨_, rfl⟩
      have hx256 : x < 256 := by rw [← hx]; exact I.at_lt l k
      rw [hx] at hc
      have HX := Lib.hid hx
      clear hx e'
      by_cases h9 : k = 9 ∧ 1 < x
      · have hk' : ((k : Int) == 9) = true := by rw [beq_iff_eq]; omega
        have hx1 : (1 : Int) < x := by omega
        have HG : Hid (I.GV l 0 [] 7) := Lib.hid ⟨k, hk, HN.out.2, Or.inr (Or.inl ⟨h9.1, by omega, by have := HX.out; rw [h9.1] at this; omega, rfl, rfl, rfl⟩)⟩
        clear h9
        go_wp2_with fail
        go_ret3
        exact gv_err HG.out
      · have hguard : ((k : Int) == 9) = false ∨ (((k : Int) == 9) = true ∧ ¬ (1 : Int) < x) := by
          by_cases e : k = 9
          · exact Or.inr ⟨by rw [beq_iff_eq]; omega, by omega⟩
          · exact Or.inl (by rw [beq_eq_false_iff_ne]; omega)
        have hx9 : k = 9 → x ≤ 1 := fun e => by omega
        by_cases hge : 128 ≤ x
        · have hk8 : k < 9 := by omega
          have hg : ((k : Int) == 9) = false := by rw [beq_eq_false_iff_ne]; omega
          have hm : x % 128 < 128 := Nat.mod_lt _ (by decide)
          have HF := Lib.hid (I.gv_form hx256 hN (I.acc_lt hN (by omega) hm (fun e => by omega)))
          have HN2 := Lib.hid (I.acc_next (x := x % 128) hN hm)
          have HS : Hid (N + x % 128 * 2 ^ (7 * k) = I.vv (l.take (k + 1)) ∧ ∀ j, j < k + 1 → 128 ≤ I.at' l j) := by
            refine Lib.hid ⟨by rw [I.vv_step hlt, HX.out, ← HN.out.1], fun j hj => ?_⟩
            by_cases e : j = k
            · rw [e, HX.out]; exact hge
            · exact HN.out.2 j (by omega)
          have hge' : (128 : Int) ≤ x := by omega
          clear h9 hguard hx9 hm
          go_wp2_with fail
          go_round
          case rel => exact ⟨k + 1, N + x % 128 * 2 ^ (7 * k), by omega, by omega, by go_num, I.val_u64 HF.out, HN2.out, HS⟩
          case measure => simp [intOf]; omega
        · have hx128 : x < 128 := by omega
          have hxm : x % 128 = x := Nat.mod_eq_of_lt hx128
          have hb64 := I.acc_lt hN hk9 hx128 hx9
          have HF := Lib.hid (I.gv_form hx256 hN (by rw [hxm]; exact hb64))
          rw [hxm] at HF
          have HB := Lib.hid hb64
          have hge' : ¬ (128 : Int) ≤ x := by omega
          have hx9' : k = 9 → I.at' l 9 ≤ 1 := fun e => by have := hx9 e; have h2 := HX.out; rw [e] at h2; omega
          by_cases hz : 0 < k ∧ x = 0
          · have HG : Hid (I.GV l 0 [] 6) := Lib.hid ⟨k, hk, HN.out.2, Or.inr (Or.inr (Or.inl ⟨hlt, hk9, by rw [HX.out]; exact hx128, hx9', hz.1, by rw [HX.out]; exact hz.2, rfl, rfl, rfl⟩))⟩
            obtain ⟨hk0, hx0⟩ := hz
            have hz1 : ((x : Int) == 0) = true := by rw [beq_iff_eq]; omega
            have hg : ((k : Int) == 9) = false ∨ ((k : Int) == 9) = true := by cases ((k : Int) == 9) <;> simp
            have hxle : ¬ (1 : Int) < x := by omega
            clear h9 hguard hx9 hx9' hxm hb64 hx0
            rcases hg with hg | hg
            all_goals
              go_wp2_with fail
              go_ret3
              exact gv_err HG.out
          · have HG : Hid (I.GV l (N + x * 2 ^ (7 * k)) (l.drop (k + 1)) 0) := by
              refine Lib.hid ⟨k, hk, HN.out.2, Or.inr (Or.inr (Or.inr ⟨hlt, hk9, by rw [HX.out]; exact hx128, hx9', fun h0 h => hz ⟨h0, by rw [← HX.out]; exact h⟩, ?_, rfl, rfl⟩))⟩
              rw [I.vv_step hlt, HX.out, ← HN.out.1, hxm]
            have hz' : ((x : Int) == 0) = false ∨ (((x : Int) == 0) = true ∧ ¬ (0 : Int) < k) := by
              by_cases e : x = 0
              · exact Or.inr ⟨by rw [beq_iff_eq]; omega, by omega⟩
              · exact Or.inl (by rw [beq_eq_false_iff_ne]; omega)
            obtain ⟨M, hM⟩ : ∃ M, N + x * 2 ^ (7 * k) = M := ⟨_, rfl⟩
            rw [hM] at HF HG HB
            have hlen : (l.drop (k + 1)).length = l.length - (k + 1) := List.length_drop
            have HLen := Lib.hid hlen
            have HM := Lib.hid hM
            clear h9 hx9 hx9' hxm hb64 hz hM hlen
            by_cases hcc : c = k + 1
            · have HCut := Lib.hid (hb.cut_end (k := k + 1) (by omega) hcc)
              rcases hguard with hg | ⟨hg, hg2⟩ <;> rcases hz' with hz1 | ⟨hz1, hz2⟩
              all_goals
                go_wp2_with fail
                rw [HF.out]
                go_quiet (fail)
                go_wp2_with fail
                go_ret3
                exact gv_ok HLen.out (HCut.out.drewN _) HG.out HB.out (I.below_drewN (Below.refl _ _) _)
            · have HCut := Lib.hid (hb.cut_far (k := k) (by omega) hcc)
              rcases hguard with hg | ⟨hg, hg2⟩ <;> rcases hz' with hz1 | ⟨hz1, hz2⟩
              all_goals
                go_wp2_with fail
                rw [HF.out]
                go_quiet (fail)
                go_wp2_with fail
                go_ret3
                exact gv_ok HLen.out (HCut.out.drewN _) HG.out HB.out (I.below_drewN (Below.refl _ _) _)
    · have HG : Hid (I.GV l 0 [] 10) := Lib.hid ⟨k, hk, HN.out.2, Or.inl ⟨by omega, hk9, rfl, rfl, rfl⟩⟩
      go_wp2_with fail
      go_ret3
      exact gv_err HG.out
set_option maxHeartbeats 400000 in
theorem GetVar_any (A : Option Addr) (c : Nat) (l : List UInt8) (w : World) (hb : BytesIn w w.heap.size A c l) (hl : l.length ≤ 100000) :
    Calls Try.prog 17 #[.slice A l.length c] w (GvPost l w) := by
  cases A with
  | some ad => exact GetVar_some ad c l w hb hl
  | none =>
    obtain ⟨rfl, rfl⟩ := hb.none_ rfl
    clear hb hl
    go_enter Try.func17, Try.ntmps17
    go_wp2_with fail
    go_loop [2, 9] (fun n i => n = .int .u64 0 ∧ i = .int .i64 0) (fun _ _ => 0)
    case atStart => exact ⟨rfl, rfl⟩
    case round =>
      obtain ⟨rfl, rfl⟩ := hrel
      go_wp2_with fail
      go_ret3
      exact gv_err I.gv_nil
end Go.Proofs.Ythopdpgjfmpgkaa
