/- The contract of Join. -/
import Derived.Test.YtbjfpmklmhgbdaaDoorWordsTool
import Derived.Test.YtbjfpmklmhgbdaaDoorWordsList
import Derived.BigQuiet
namespace Go.Proofs.YtbjfpmklmhgbdaaDoor
open Go.RowKit
def strV (x : List UInt8) : Value := .string ⟨x.toArray⟩
set_option maxHeartbeats 1000000 in
/-- One string is appended to an owned row. -/
theorem push_str {ops : Array Oper} {rest : List Oper} {o : Oper} {a : Act} {Q : Exit → Act → World → Prop} (w w0 : World) (x : List UInt8) (hgd : o.guard = none) (s y : Operand)
    (ho : o.op = .call { callee := .builtin .append, args := #[s, y], argTypes := #[59, 59] })
    (B : Nat) (v : Value) (xs : List (List UInt8)) (hs : a.eval s = v) (hx : a.eval y = .slice (some ⟨w0.heap.size, 0, none⟩) 1 1) (hown : w0.ownsRow B 9 1 v xs.length (xs.map strV))
    (hB : B ≤ w.heap.size) (hbel : Below B w w0) (hl : xs.length ≤ 1000000)
    (h : ∀ v' w', w'.ownsRow B 9 1 v' (xs ++ [x]).length ((xs ++ [x]).map strV) → Below B w w' → wpList Tryd.prog ops Q rest (a.put o.dst v') w') :
    wpList Tryd.prog ops Q (o :: rest) a (w0.alloc (.cells #[.string ⟨x.toArray⟩] 9)) := by
  obtain ⟨i0, hi, hz0, hz1, hz2⟩ := info_parts info_str
  have hB0 : B ≤ w0.heap.size := Nat.le_trans hB hbel.size
  refine wpList_append_own _ hgd s y 59 ho B 9 i0 (.string ⟨#[]⟩) 1 16 Tryd.underlying59 hi hz0 hz1 hz2 rfl (by decide) v _ _ hs (hown.alloc _) ⟨w0.heap.size, 0, none⟩ 1 1 [strV x] hx rfl ?_ ?_ ?_ ?_ ?_ ?_
  · intro j u hj
    match j, hj with
    | 0, hj => simp at hj; subst hj; simp [Addr.add, strV]
  · intro u hu; simp at hu; subst hu; rfl
  · unfold maxLen; omega
  · omega
  · simp; omega
  · intro v' w' hown' hg _
    refine h v' w' (by simpa using hown') ?_
    exact ((hbel.alloc hB0 _).grown hg (by simp; omega) (fun k hk => (hown.lt k hk).1))
def JoinPost (fs : List FV) (w : World) (e : Ending) (w' : World) : Prop := e = .returned (.tuple #[.string ⟨(W.joinV fs).toArray⟩, .int .i64 (W.joinE fs)]) ∧ Below w.heap.size w w'
theorem join_long {fs : List FV} {w w' : World} (h : W.longF fs = true) (hb : Below w.heap.size w w') : JoinPost fs w (.returned (.tuple #[.string ⟨#[]⟩, .int .i64 3])) w' :=
  ⟨by unfold W.joinV W.joinE; rw [if_pos (Or.inl h), if_pos h], hb⟩
theorem join_bad {fs : List FV} {w w' : World} (h0 : W.longF fs = false) (h : fs.any W.badF = true) (hb : Below w.heap.size w w') : JoinPost fs w (.returned (.tuple #[.string ⟨#[]⟩, .int .i64 6])) w' :=
  ⟨by unfold W.joinV W.joinE; rw [if_pos (Or.inr (Or.inl h)), h0, if_neg (by simp), if_pos h], hb⟩
theorem join_far {fs : List FV} {w w' : World} (h0 : W.longF fs = false) (h : fs.any W.badF = false) (h8 : 8192 < (W.lineB fs).length) (hb : Below w.heap.size w w') : JoinPost fs w (.returned (.tuple #[.string ⟨#[]⟩, .int .i64 3])) w' :=
  ⟨by unfold W.joinV W.joinE; rw [if_pos (Or.inr (Or.inr h8)), h0, h, if_neg (by simp), if_neg (by simp), if_pos h8], hb⟩
theorem join_good {fs : List FV} {w w' : World} (h0 : W.longF fs = false) (h : fs.any W.badF = false) (h8 : ¬ 8192 < (W.lineB fs).length) (hb : Below w.heap.size w w') : JoinPost fs w (.returned (.tuple #[.string ⟨(W.lineB fs).toArray⟩, .int .i64 0])) w' :=
  ⟨by unfold W.joinV W.joinE; rw [h0, h, if_neg (by simp [h8]), if_neg (by simp), if_neg (by simp), if_neg h8], hb⟩
theorem W.bad_at {fs : List FV} {k : Nat} (h : k < fs.length) (h2 : W.badF fs[k] = true) : fs.any W.badF = true := List.any_eq_true.2 ⟨fs[k], List.getElem_mem h, h2⟩
theorem W.bad_none {fs : List FV} (h : ∀ j (h : j < fs.length), W.badF fs[j] = false) : fs.any W.badF = false := by
  rw [List.any_eq_false]
  intro f hf
  obtain ⟨j, hj, rfl⟩ := List.mem_iff_getElem.1 hf
  rw [h j hj]; simp
theorem W.map_next {fs : List FV} {k : Nat} (h : k < fs.length) : (fs.take k).map W.writeB ++ [W.writeB fs[k]] = (fs.take (k + 1)).map W.writeB := by
  rw [← List.take_append_getElem h, List.map_append]; rfl
theorem bareSize_here (s : List UInt8) (hs : s.length ≤ 2000) (w : World) :
    Calls Tryd.prog 45 #[.string ⟨s.toArray⟩] w fun e w' => e = .returned (.int .i64 (W.bareN s : Nat)) ∧ w' = w :=
  (bareSize_any ⟨s.toArray⟩ w (by show s.length ≤ _; unfold maxLen; omega)).mono fun _ _ h => ⟨h.1, h.2.symm⟩
/-- How a field that is not quoted is looked at. -/
theorem W.bare_cases (s : List UInt8) : (s = [] ∧ W.badF (s, false) = true) ∨ (s ≠ [] ∧ W.bareN s < s.length ∧ W.badF (s, false) = true) ∨ (s ≠ [] ∧ W.bareN s = s.length ∧ W.badF (s, false) = false) := by
  have hle := W.bareN_le s
  unfold W.badF W.bareOk
  by_cases h0 : s = []
  · subst h0; exact Or.inl ⟨rfl, by simp⟩
  · have hp : 0 < s.length := List.length_pos_iff.2 h0
    by_cases h : W.bareN s = s.length
    · exact Or.inr (Or.inr ⟨h0, h, by simp [h, hp]⟩)
    · exact Or.inr (Or.inl ⟨h0, by omega, by simp [h]⟩)
set_option maxRecDepth 100000 in
set_option maxHeartbeats 4000000 in
theorem Join_some (ad : Addr) (c m : Nat) (fs : List FV) (w : World) (hb : FieldsIn w w.heap.size (some ad) c fs) (hm : fs.length = m) (hE : EscIn w) (h70 : m ≤ 1000) :
    Calls Tryd.prog 25 #[.slice (some ad) m c] w (JoinPost fs w) := by
  have hlc := hb.le
  have hcm := hb.cap
  unfold maxLen at hcm
  have Hm := Lib.hid hm
  have HB := Lib.hid hb
  have HE := Lib.hid hE
  have htl := tooLong_in (some ad) c m fs w hb hm
  rw [hm] at hlc
  clear hm hb hE
  obtain ⟨i0, hi, hz0, hz1, hz2⟩ := info_parts info_str
  go_enter Tryd.func25, Tryd.ntmps25
  go_wp2_with fail
  refine htl.mono ?_
  rintro e w1 ⟨rfl, hb1⟩
  have hlg : W.longF fs = true ∨ W.longF fs = false := by cases W.longF fs <;> simp
  clear htl
  rcases hlg with hlg | hlg
  · have HL := Lib.hid hlg
    rw [hlg]
    clear hlg
    go_wp2_with fail
    go_ret2
    exact join_long HL.out hb1
  · have HL := Lib.hid hlg
    rw [hlg]
    clear hlg
    go_wp2_with (at_make; refine wpList_make_own _ rfl _ _ 59 rfl w.heap.size 9 i0 (.string ⟨#[]⟩) 1 Tryd.underlying59 hi hz0 hz1 .i64 .i64 _ m rfl rfl (by omega) (by rw [hz2]; omega) (by unfold maxLen; omega) hb1.size ?_; intro w2 hown2 hgrow2; have hb2 : Below w.heap.size w w2 := hb1.grown hgrow2 hb1.size (fun k hk => by cases hk))
    go_loopw [4, 15] (fun v i wr => ∃ k : Nat, k ≤ m ∧ i = .int .i64 k ∧ wr.ownsRow w.heap.size 9 1 v ((fs.take k).map W.writeB).length (((fs.take k).map W.writeB).map strV) ∧ Below w.heap.size w wr ∧ Hid (∀ j (h : j < fs.length), j < k → W.badF fs[j] = false)) (fun _ i _ => m - (intOf i).toNat)
    case atStart => exact ⟨0, Nat.zero_le _, rfl, by simpa using hown2, hb2, Lib.hid (fun j h hj => by omega)⟩
    case round =>
      obtain ⟨k, hk, rfl, hown, hbel, HA⟩ := hrel
      by_cases hlt : k < m
      · have hkf : k < fs.length := by rw [Hm.out]; exact hlt
        obtain ⟨hlb, c0, c1⟩ := (HB.out.below hbel).cells ad rfl k hkf
        rw [← addr_add, addr_one] at c1
        obtain ⟨s, q, hs⟩ : ∃ s q, fs[k]'hkf = (s, q) := ⟨_, _, rfl⟩
        rw [hs] at c0 c1
        have hs2 : s.length ≤ 2000 := by
          have := (W.long_no HL.out).2 _ (List.getElem_mem hkf)
          rw [hs] at this; exact this
        have hbad := W.bare_cases s
        have hnx := W.map_next hkf
        rw [hs] at hnx
        have HNx := Lib.hid hnx
        have HS := Lib.hid hs
        have hlen : ((fs.take k).map W.writeB).length ≤ 1000 := by rw [List.length_map, List.length_take]; omega
        obtain ⟨xs, hxs⟩ : ∃ xs, xs = (fs.take k).map W.writeB := ⟨_, rfl⟩
        rw [← hxs] at hown hlen HNx
        have hbelA := hbel.alloc hbel.size (.cells #[.string ⟨s.toArray⟩, .bool q] 45)
        have hownA := hown.alloc (.cells #[.string ⟨s.toArray⟩, .bool q] 45)
        clear hs hnx hxs
        cases q with
        | true =>
          have HA2 : Hid (∀ j (h : j < fs.length), j < k + 1 → W.badF fs[j] = false) := Lib.hid (fun j h hj => by
            by_cases e : j = k
            · subst e; rw [HS.out]; rfl
            · exact HA.out j h (by omega))
          clear hbad
          go_wp2_with fail
          go_quiet (fail)
          go_wp2_with fail
          have hbn := below_drewN hbelA nq
          refine (write_any s true _ (HE.out.below hbn) (by omega)).mono ?_
          rintro e w4 ⟨rfl, hb4⟩
          have hown4 := own_below hownA ((below_drewN (Below.refl _ _) nq).trans hb4)
          have hbel4 := hbn.trans (hb4.mono hbn.size)
          go_wp2_with (at_builtin; refine push_str w _ _ rfl _ _ rfl w.heap.size _ xs rfl rfl hown4 (Nat.le_refl _) hbel4 (by omega) ?_; intro v5 w5 hown5 hbel5)
          go_roundw
          case rel => exact ⟨k + 1, by omega, by go_num, by rw [← HNx.out]; exact hown5, hbel5, HA2⟩
          case measure => simp [intOf]; omega
        | false =>
          rcases hbad with ⟨hb1', hb2'⟩ | ⟨hb0, hb1', hb2'⟩ | ⟨hb0, hb1', hb2'⟩
          · subst hb1'
            have HX := Lib.hid (W.bad_at hkf (by rw [HS.out]; exact hb2'))
            clear hb2'
            go_wp2_with fail
            go_quiet (fail)
            go_wp2_with fail
            go_ret2
            exact join_bad HL.out HX.out (below_drewN hbelA _)
          · have HX := Lib.hid (W.bad_at hkf (by rw [HS.out]; exact hb2'))
            have hsz : s.isEmpty = false := by cases s <;> simp at hb0 ⊢
            have hlt2 : (W.bareN s : Int) < s.length := by omega
            clear hb2' hb1'
            go_wp2_with fail
            go_quiet ((go_at_call 45; exact Calls.quiet_of_same (bareSize_here s hs2 _)))
            go_wp2_with fail
            go_ret2
            exact join_bad HL.out HX.out (below_drewN hbelA _)
          · have HA2 : Hid (∀ j (h : j < fs.length), j < k + 1 → W.badF fs[j] = false) := Lib.hid (fun j h hj => by
              by_cases e : j = k
              · subst e; rw [HS.out]; exact hb2'
              · exact HA.out j h (by omega))
            have hsz : s.isEmpty = false := by cases s <;> simp at hb0 ⊢
            have hlt2 : ¬ (W.bareN s : Int) < s.length := by omega
            clear hb2' hb1'
            go_wp2_with fail
            go_quiet ((go_at_call 45; exact Calls.quiet_of_same (bareSize_here s hs2 _)))
            go_wp2_with fail
            have hbn := below_drewN hbelA nq
            refine (write_any s false _ (HE.out.below hbn) (by omega)).mono ?_
            rintro e w4 ⟨rfl, hb4⟩
            have hown4 := own_below hownA ((below_drewN (Below.refl _ _) nq).trans hb4)
            have hbel4 := hbn.trans (hb4.mono hbn.size)
            go_wp2_with (at_builtin; refine push_str w _ _ rfl _ _ rfl w.heap.size _ xs rfl rfl hown4 (Nat.le_refl _) hbel4 (by omega) ?_; intro v5 w5 hown5 hbel5)
            go_roundw
            case rel => exact ⟨k + 1, by omega, by go_num, by rw [← HNx.out]; exact hown5, hbel5, HA2⟩
            case measure => simp [intOf]; omega
      · have hkm : k = m := by omega
        have htk : fs.take k = fs := List.take_of_length_le (by have := Hm.out; omega)
        rw [htk] at hown
        have hbn0 := W.bad_none (fs := fs) (fun j h => HA.out j h (by have := Hm.out; omega))
        have hll := W.line_len (fs := fs) (m := 2000) (W.long_no HL.out).2
        have hl64 := (W.long_no HL.out).1
        have hjn := join_own (sep := [32]) hown (by rw [List.length_map]; omega) (by show (W.lineB fs).length ≤ _; omega)
        have HX := Lib.hid hbn0
        clear hbn0 htk hown
        go_wp2_with fail
        refine hjn.mono ?_
        rintro e w6 ⟨rfl, hb6⟩
        have hbel6 := hbel.trans (hb6.mono hbel.size)
        obtain ⟨L, hL⟩ : ∃ L, L = Lib.join (fs.map W.writeB) [32] := ⟨_, rfl⟩
        have hL2 : L = W.lineB fs := hL
        rw [← hL]
        rw [← hL2] at hll
        by_cases h8 : 8192 < L.length
        · have h8' : (8192 : Int) < L.length := by omega
          have HY := Lib.hid (hL2 ▸ h8)
          clear h8 hL hL2
          go_wp2_with fail
          go_ret2
          exact join_far HL.out HX.out HY.out hbel6
        · have h8' : ¬ (8192 : Int) < L.length := by omega
          have HY : Hid (¬ 8192 < (W.lineB fs).length) := Lib.hid (hL2 ▸ h8)
          have HQ := Lib.hid hL2
          clear h8 hL hL2
          go_wp2_with fail
          go_ret2
          rw [HQ.out]
          exact join_good HL.out HX.out HY.out hbel6
end Go.Proofs.YtbjfpmklmhgbdaaDoor
