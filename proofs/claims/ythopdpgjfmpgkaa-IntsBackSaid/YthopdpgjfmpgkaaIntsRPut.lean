/- Contracts of the reference's Put. -/
import Derived.Test.YthopdpgjfmpgkaaIntsPut
import Derived.Laws.AppendOwnNone
namespace Go.Proofs.Ythopdpgjfmpgkaa
open Go.RowKit
/-- Bytes that read as a list are appended to an owned row. -/
theorem push_bytes {ops : Array Oper} {rest : List Oper} {o : Oper} {a : Act} {Q : Exit → Act → World → Prop} (w w0 : World) (hgd : o.guard = none) (s x : Operand)
    (ho : o.op = .call { callee := .builtin .append, args := #[s, x], argTypes := #[22, 22] })
    (B : Nat) (v : Value) (xs : List UInt8) (hs : a.eval s = v) (hown : w0.ownsRow B 5 1 v xs.length (xs.map byteV)) (Bs : Nat) (A : Option Addr) (c n : Nat) (l : List UInt8) (hn : n = l.length) (hx : a.eval x = .slice A n c) (hin : BytesIn w0 Bs A c l)
    (hB : B ≤ w.heap.size) (hbel : Below B w w0) (hl : xs.length ≤ 1000000) (hl2 : l.length ≤ 1000000)
    (h : ∀ v' w', w'.ownsRow B 5 1 v' (xs ++ l).length ((xs ++ l).map byteV) → Below B w w' → w0.grownBy w' v.ownBlock → wpList Try.prog ops Q rest (a.put o.dst v') w') :
    wpList Try.prog ops Q (o :: rest) a w0 := by
  obtain ⟨i0, hi, hz0, hz1, hz2⟩ := info_parts info_u8
  have hB0 : B ≤ w0.heap.size := Nat.le_trans hB hbel.size
  subst hn
  cases A with
  | none =>
    obtain ⟨rfl, rfl⟩ := hin.none_ rfl
    refine wpList_append_own_none hgd s x 22 ho B 5 i0 1 Try.underlying22 hi v _ _ hs hown (by simpa using hx) ?_
    exact h v w0 (by simpa using hown) hbel (World.grownBy.refl w0 _)
  | some ad =>
    refine wpList_append_own _ hgd s x 22 ho B 5 i0 (.int .u8 0) 1 1 Try.underlying22 hi hz0 hz1 hz2 rfl (by decide) v _ _ hs hown ad l.length c (l.map byteV) hx (by simp) (fun j u hj => hin.src ad rfl j u hj) (byteV_one l) (by unfold maxLen; omega) (by omega) hB0 ?_
    intro v' w' hown' hg _
    exact h v' w' (by simpa using hown') (hbel.grown hg hB0 (fun k hk => (hown.lt k hk).1)) hg
namespace I
/-- What the digits are when those from place j on have been written. -/
def digs (N k j : Nat) : List UInt8 := List.replicate j 0 ++ be N (k - j)
theorem digs_len {N k j : Nat} (h : j ≤ k) : (digs N k j).length = k := by simp [digs, be_len]; omega
theorem digs_set {N k i M : Nat} (hi : i < k) (hM : M = N / 2 ^ (8 * (k - (i + 1)))) : (digs N k (i + 1)).set i (UInt8.ofNat M) = digs N k i := by
  unfold digs
  have e : k - i = (k - (i + 1)) + 1 := by omega
  rw [e, be, List.replicate_succ', List.append_assoc, List.set_append_right _ _ (by simp), List.length_replicate, Nat.sub_self, hM]
  rfl
theorem digs_next {N k i M : Nat} (hi : i < k) (hM : M = N / 2 ^ (8 * (k - (i + 1)))) : M / 256 = N / 2 ^ (8 * (k - i)) := by
  have e : k - i = (k - (i + 1)) + 1 := by omega
  rw [e, hM, Nat.mul_add, Nat.pow_add, Nat.div_div_eq_div_mul]
theorem digs_at {N k i : Nat} (_hi : i < k) : ((digs N k (i + 1)).map byteV)[i]? = some (.int .u8 0) := by
  unfold digs
  rw [List.getElem?_map, List.getElem?_append_left (by simp), List.getElem?_replicate, if_pos (by omega)]
  rfl
theorem byte_of (M : Nat) : (Value.int .u8 ((M : Int) % 256)) = byteV (UInt8.ofNat M) := by
  unfold byteV
  rw [UInt8.toNat_ofNat']
  rfl
end I
set_option maxRecDepth 100000 in
set_option maxHeartbeats 1000000 in
theorem RPut_ok (A : Option Addr) (c : Nat) (l : List UInt8) (N k : Nat) (w : World) (hb : BytesIn w w.heap.size A c l) (hl : l.length ≤ 100000) (hN : N < 18446744073709551616) (h1 : 1 ≤ k) (h2 : k ≤ 8) (hf : N < 2 ^ (8 * k)) :
    Calls Try.prog 14 #[.slice A l.length c, .int .u64 N, .int .i64 k] w fun e w' => ∃ v, e = .returned (.tuple #[v, .int .i64 0]) ∧ w'.ownsRow w.heap.size 5 1 v (l ++ I.be N k).length ((l ++ I.be N k).map byteV) ∧ Below w.heap.size w w' := by
  obtain ⟨i0, hi, hz0, hz1, hz2⟩ := info_parts info_u8
  have HF := Lib.hid hf
  have H8 := Lib.hid (show ((8 : Int) * k).toNat = 8 * k by omega)
  clear hf
  go_enter Try.func14, Try.ntmps14
  go_wp2_with fail
  refine (below_int _ _ true (by omega) (by omega) (by omega) (by omega) (by rw [H8.out]; exact decide_eq_true (by have := HF.out; omega)) _).mono ?_
  rintro e w' ⟨rfl, rfl⟩
  go_wp2_with (at_make; refine wpList_make_full _ rfl _ _ 22 rfl w.heap.size 5 i0 (.int .u8 0) 1 Try.underlying22 hi hz0 hz1 .i64 .i64 _ _ k rfl rfl rfl rfl (by rw [hz2]; omega) (by unfold maxLen; omega) (Nat.le_refl _) ?_; intro w0 hown0 hgrow0; have hb0 : Below w.heap.size w w0 := (Below.refl _ _).grown hgrow0 (Nat.le_refl _) (fun k hk => by cases hk))
  have HG : Hid (w.heap.size < w0.heap.size) := Lib.hid (by have := (hown0.lt w.heap.size rfl).2; exact this)
  have hown0' : w0.ownsRow w.heap.size 5 1 (.slice (some ⟨w.heap.size, 0, none⟩) k k) k ((I.digs N k k).map byteV) := by
    have e : (madeCells (Value.int .u8 0).cells (k * 1)).toList = (I.digs N k k).map byteV := by
      rw [Nat.mul_one]
      have : (Value.int .u8 0).cells = #[.int .u8 0] := rfl
      rw [this, toList_madeCells_one]
      simp [I.digs, I.be, byteV]
    rw [← e]; exact hown0
  clear hown0 hgrow0
  go_loopw [1, 9] (fun n i wr => ∃ j M : Nat, j ≤ k ∧ i = .int .i64 ((j : Int) - 1) ∧ n = .int .u64 M ∧ M < 18446744073709551616 ∧ Hid (M = N / 2 ^ (8 * (k - j))) ∧ wr.ownsRow w.heap.size 5 1 (.slice (some ⟨w.heap.size, 0, none⟩) k k) k ((I.digs N k j).map byteV) ∧ Below w.heap.size w wr) (fun _ i _ => (intOf i + 1).toNat)
  case atStart => exact ⟨k, N, Nat.le_refl _, rfl, rfl, hN, Lib.hid (by simp), hown0', hb0⟩
  case round =>
    obtain ⟨j, M, hj, rfl, rfl, hM, HM, hown, hbel⟩ := hrel
    by_cases hlt : 1 ≤ j
    · obtain ⟨i, rfl⟩ : ∃ i, j = i + 1 := ⟨j - 1, by omega⟩
      have hcell := (hown.cellAt i (by omega)).trans (I.digs_at (N := N) (k := k) (by omega))
      have hfr := hown.frozenAt i
      obtain ⟨hst, hgr⟩ := hown.stored i (.int .u8 ((M : Int) % 256))
      rw [I.byte_of, ← List.map_set, I.digs_set (by omega) HM.out, ← I.byte_of] at hst
      have HST := Lib.hid hst
      have HB := Lib.hid (hbel.grown hgr hbel.size (fun g hg => by injection hg with hg; omega))
      have HN := Lib.hid (I.digs_next (by omega) HM.out)
      clear hst hgr hown hown0' hbel
      go_wp2_with fail
      go_roundw
      case rel => exact ⟨i, M / 256, by omega, rfl, I.val_u64 (by omega), by omega, HN, HST.out, HB.out⟩
      case measure => simp [intOf]
    · obtain rfl : j = 0 := by omega
      have hfin : I.digs N k 0 = I.be N k := by simp [I.digs]
      rw [hfin] at hown
      have hown1 : (wr.alloc (.cells #[] 5)).ownsRow w.heap.size 5 1 (.slice (some ⟨wr.heap.size, 0, none⟩) 0 0) ([] : List UInt8).length (([] : List UInt8).map byteV) := World.ownsRow_made wr #[] 0 hbel.size (by unfold maxLen; omega) (by simp)
      have hbel1 : Below w.heap.size w (wr.alloc (.cells #[] 5)) := hbel.alloc hbel.size _
      have hin1 := hb.below hbel1
      have hwr : w.heap.size < wr.heap.size := (hown.lt w.heap.size rfl).2
      have hdig : ∀ w1 : World, (wr.alloc (.cells #[] 5)).grownBy w1 (some wr.heap.size) → BytesIn w1 w1.heap.size (some ⟨w.heap.size, 0, none⟩) k (I.be N k) := fun w1 hg1 =>
        BytesIn.of_own ((hown.alloc _).kept hg1 (Or.inr (fun e => by injection e with e; simp at e; omega)))
      have HDig := Lib.hid hdig
      have HLen := Lib.hid (I.be_len N k).symm
      have hLl : (I.be N k).length ≤ 1000000 := by rw [I.be_len]; omega
      clear hfin hdig hown hown0' hb0 hb
      go_wp2_with (first
        | (at_builtin; refine push_bytes w _ rfl (.tmp 39) (.tmp 40) rfl w.heap.size _ [] rfl hown1 w.heap.size A c _ l rfl rfl hin1 (Nat.le_refl _) hbel1 (by simp) (by omega) ?_; intro v1 w1 hv1 hbw1 hg1; have hdg := HDig.out w1 hg1; simp only [List.nil_append] at hv1)
        | (at_builtin; refine push_bytes w _ rfl (.tmp 41) (.tmp 42) rfl w.heap.size v1 l rfl hv1 w1.heap.size (some ⟨w.heap.size, 0, none⟩) k _ (I.be N k) HLen.out rfl hdg (Nat.le_refl _) hbw1 (by omega) hLl ?_; intro v2 w2 hv2 hbw2 hg2))
      go_ret2
      exact ⟨v2, rfl, hv2, hbw2⟩
set_option maxHeartbeats 1000000 in
theorem RPut_any (A : Option Addr) (c : Nat) (l : List UInt8) (N : Nat) (b : Int) (w : World) (hb : BytesIn w w.heap.size A c l) (hl : l.length ≤ 100000) (hN : N < 18446744073709551616) :
    Calls Try.prog 14 #[.slice A l.length c, .int .u64 N, .int .i64 b] w fun e w' => ∃ v, e = .returned (.tuple #[v, .int .i64 (I.errV (I.putOk N b))]) ∧ w'.ownsRow w.heap.size 5 1 v (I.putL l N b).length ((I.putL l N b).map byteV) ∧ Below w.heap.size w w' := by
  by_cases hw : 1 ≤ b ∧ b ≤ 8
  · obtain ⟨k, rfl⟩ := Int.eq_ofNat_of_zero_le (show 0 ≤ b by omega)
    have h1 : 1 ≤ k := by omega
    have h2 : k ≤ 8 := by omega
    by_cases hf : N < 2 ^ (8 * k)
    · have hok : I.putOk N k = true := by rw [I.putOk_nat h1 h2]; exact decide_eq_true hf
      rw [I.putL_yes (l := l) hok, hok]
      exact RPut_ok A c l N k w hb hl hN h1 h2 hf
    · have hok : I.putOk N k = false := by rw [I.putOk_nat h1 h2]; exact decide_eq_false hf
      have HF := Lib.hid hf
      have HO := Lib.hid (I.put_no (l := l) hok)
      have H8 := Lib.hid (show ((8 : Int) * k).toNat = 8 * k by omega)
      clear hw hf hok
      go_enter Try.func14, Try.ntmps14
      go_wp2_with fail
      refine (below_int _ _ false (by omega) (by omega) (by omega) (by omega) (by rw [H8.out]; exact decide_eq_false (by have := HF.out; omega)) _).mono ?_
      rintro e w' ⟨rfl, rfl⟩
      go_wp2_with fail
      go_ret2
      exact ⟨_, ret_vi HO.out.2.symm, by rw [HO.out.1]; exact World.ownsRow_nil _ _ _ _, Below.refl _ _⟩
  · have HO := Lib.hid (I.put_no (l := l) (N := N) (b := b) (by unfold I.putOk; exact decide_eq_false (fun ⟨x, y, _⟩ => hw ⟨x, y⟩)))
    by_cases h1 : b < 1
    · clear hw
      go_enter Try.func14, Try.ntmps14
      go_wp2_with fail
      go_ret2
      exact ⟨_, ret_vi HO.out.2.symm, by rw [HO.out.1]; exact World.ownsRow_nil _ _ _ _, Below.refl _ _⟩
    · have h2 : 8 < b := by omega
      clear hw
      go_enter Try.func14, Try.ntmps14
      go_wp2_with fail
      go_ret2
      exact ⟨_, ret_vi HO.out.2.symm, by rw [HO.out.1]; exact World.ownsRow_nil _ _ _ _, Below.refl _ _⟩
end Go.Proofs.Ythopdpgjfmpgkaa
