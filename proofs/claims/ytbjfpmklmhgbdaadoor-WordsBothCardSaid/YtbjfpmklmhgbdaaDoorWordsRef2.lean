/- Contracts of the reference's quoted and Unquote. -/
import Derived.Test.YtbjfpmklmhgbdaaDoorWordsRef
namespace Go.Proofs.YtbjfpmklmhgbdaaDoor
open Go.RowKit
namespace W
/-- No byte's form stands at a place. -/
def NoForm (l : List UInt8) (c : Nat) : Prop := ∀ u : UInt8, u.toNat < c → ∀ r, l ≠ escB u ++ r
theorem noForm_zero (l : List UInt8) : NoForm l 0 := fun _ h => absurd h (by omega)
theorem noForm_step {l : List UInt8} {u : UInt8} (h : NoForm l u.toNat) (hn : ∀ r, l ≠ escB u ++ r) : NoForm l (u.toNat + 1) := by
  intro v hv r
  by_cases e : v.toNat = u.toNat
  · rw [UInt8.toNat_inj.1 e]; exact hn r
  · exact h v (by omega) r
theorem reads_none_all {s : ByteArray} {bs : List UInt8} {k : Nat} (h : QInv s bs k) (hk : k < s.size) (h34 : ((s[k]'hk).toNat : Int) ≠ 34) (hn : NoForm (s.data.toList.drop k) 256) : ReadsQ s.data.toList [] 0 := by
  refine Or.inr ⟨fun b' r' hb => ?_, rfl, rfl⟩
  obtain ⟨b2, e⟩ := begins_rest h hb
  match b2, e with
  | [], e =>
    apply h34
    have h0 : (s.data.toList.drop k)[0]? = some 34 := by rw [e]; rfl
    rw [List.getElem?_drop, Nat.add_zero, List.getElem?_eq_getElem hk] at h0
    rw [get_list s k hk, Option.some.inj h0]
    rfl
  | d :: b2, e =>
    simp only [escS, List.flatMap_cons, List.append_assoc] at e
    exact hn d d.toNat_lt _ e
theorem ext_form (s : ByteArray) (k m : Nat) : (s.extract k (k + m)).toList = (s.data.toList.drop k).take m := by
  rw [ByteArray.toList_eq, Lib.extract_data, show k + m - k = m from by omega]
theorem form_yes {s : ByteArray} {k : Nat} {l : List UInt8} (h : ((s.extract k (k + l.length)).toList == l) = true) : s.data.toList.drop k = l ++ s.data.toList.drop (k + l.length) := by
  rw [beq_iff_eq, ext_form] at h
  have := List.take_append_drop l.length (s.data.toList.drop k)
  rw [h, List.drop_drop] at this
  exact this.symm
theorem form_no {s : ByteArray} {k : Nat} {l : List UInt8} (h : ((s.extract k (k + l.length)).toList == l) = false) (r : List UInt8) : s.data.toList.drop k ≠ l ++ r := by
  intro e
  rw [beq_eq_false_iff_ne, ext_form, e] at h
  exact h (by simp)
theorem form_long {s : ByteArray} {k : Nat} {l : List UInt8} (h : s.size - k < l.length) (r : List UInt8) : s.data.toList.drop k ≠ l ++ r := by
  intro e
  have := congrArg List.length e
  rw [List.length_drop, List.length_append] at this
  have hl : s.data.toList.length = s.size := rfl
  omega
end W

set_option maxRecDepth 100000 in
set_option maxHeartbeats 2000000 in
theorem quoted_any (s : ByteArray) (w : World) (hs : s.size ≤ 140737488351232) :
    Calls Tryd.prog 39 #[.string s] w fun e w' => ∃ b n, e = .returned (.tuple #[.string ⟨b.toArray⟩, .int .i64 (n : Nat)]) ∧ W.ReadsQ s.data.toList b n ∧ Below w.heap.size w w' := by
  by_cases hp : 0 < s.size
  case neg =>
    have hr : W.ReadsQ s.data.toList [] 0 := W.reads_none_first (fun r e => by have := congrArg List.length e; have hl : s.data.toList.length = s.size := rfl; simp at this; omega)
    have Hr := Lib.hid hr
    have h0 : ((s.size : Int) == 0) = true := by rw [beq_iff_eq]; omega
    clear hr
    go_enter Tryd.func39, Tryd.ntmps39
    go_wp2_with fail
    go_ret2
    exact ⟨[], 0, rfl, Hr.out, Below.refl _ _⟩
  case pos =>
  have h0 : ((s.size : Int) == 0) = false := by rw [beq_eq_false_iff_ne]; omega
  by_cases h34 : (((s[0]'hp).toNat : Int) != 34) = true
  case pos =>
    have hr : W.ReadsQ s.data.toList [] 0 := W.reads_none_first (fun r e => by
      have hg : s[0]'hp = 34 := by rw [W.get_list]; simp [e]
      rw [hg] at h34
      exact absurd h34 (by decide))
    have Hr := Lib.hid hr
    clear hr
    go_enter Tryd.func39, Tryd.ntmps39
    go_wp2_with fail
    go_ret2
    exact ⟨[], 0, rfl, Hr.out, Below.refl _ _⟩
  case neg =>
  have hst := W.qinv_start hp (by simpa using h34)
  have h34' : (((s[0]'hp).toNat : Int) != 34) = false := by simpa using h34
  clear h34
  obtain ⟨i0, hi, hz0, hz1, hz2⟩ := info_parts info_u8
  go_enter Tryd.func39, Tryd.ntmps39
  go_wp2_with fail
  clear h34' h0
  go_loopw [4, 5] (fun v i wr => ∃ (bs : List UInt8) (k : Nat), k ≤ s.size ∧ i = .int .i64 k ∧ W.QInv s bs k ∧ wr.ownsRow w.heap.size 5 1 v bs.length (bs.map byteV) ∧ Below w.heap.size w wr) (fun _ i _ => s.size - (intOf i).toNat)
  case atStart => exact ⟨[], 1, hp, rfl, hst, World.ownsRow_nil _ _ _ _, Below.refl _ _⟩
  case round =>
    obtain ⟨bs, k, hk, rfl, hinv, hown, hbel⟩ := hrel
    have hlen := hinv.2
    by_cases hlt : k < s.size
    · by_cases hq : (((s[k]'hlt).toNat : Int) != 34) = true
      · have hne : ((s[k]'hlt).toNat : Int) ≠ 34 := by simpa using hq
        have Hne := Lib.hid hne
        clear hne
        go_wp2_with fail
        obtain ⟨wo, rfl⟩ : ∃ wo : World, wo = wr := ⟨_, rfl⟩
        go_loopw [4, 5, 6, 7] (fun v i f c wr => ∃ n : Nat, n ≤ 256 ∧ c = .int .i64 n ∧ ((f = .bool false ∧ v = u4 ∧ i = .int .i64 k ∧ W.NoForm (s.data.toList.drop k) n ∧ wr.ownsRow w.heap.size 5 1 v bs.length (bs.map byteV)) ∨ (f = .bool true ∧ ∃ (u : UInt8) (r : List UInt8), s.data.toList.drop k = W.escB u ++ r ∧ i = .int .i64 ((k + (W.escB u).length : Nat) : Int) ∧ wr.ownsRow w.heap.size 5 1 v (bs ++ [u]).length ((bs ++ [u]).map byteV))) ∧ Below w.heap.size w wr) (fun _ _ _ c _ => 256 - (intOf c).toNat)
        case atStart => exact ⟨0, by omega, rfl, Or.inl ⟨rfl, rfl, rfl, W.noForm_zero _, hown⟩, hbel⟩
        case round =>
          obtain ⟨n, hn, rfl, hor, hbel2⟩ := hrel
          rcases hor with ⟨rfl, rfl, rfl, hno, hown2⟩ | ⟨rfl, u, r, hd, rfl, hown2⟩
          · by_cases hc : n < 256
            · obtain ⟨u, hu⟩ : ∃ u : UInt8, u.toNat = n := ⟨UInt8.ofNat n, by rw [UInt8.toNat_ofNat_of_lt' (by exact hc)]⟩
              subst hu
              obtain ⟨l, hl⟩ : ∃ l, W.escB u = l := ⟨_, rfl⟩
              have hl4 := W.escB_le u
              have hl1 := W.escB_pos u
              rw [hl] at hl4 hl1
              have Hl := Lib.hid hl
              have hesc : ∀ w : World, Calls Tryd.prog 41 #[.int .u8 (u.toNat : Int)] w fun e w' => e = .returned (.string ⟨l.toArray⟩) ∧ Below w.heap.size w w' := fun w => by
                rw [← hl]; exact escaped_any u w
              have Hesc := Lib.hid hesc
              clear hl hesc
              by_cases hA : l.length ≤ s.size - k
              · have hA' : (l.length : Int) ≤ (s.size : Int) - (k : Int) := by omega
                by_cases hB : ((s.extract k (k + l.length)).toList == l) = true
                · have hd := W.form_yes hB
                  have Hd := Lib.hid hd
                  clear hd
                  go_wp2_with (first | (go_at_call 41; refine (Hesc.out _).mono ?_; rintro e w1 ⟨rfl, hb1⟩; have hown3 := own_below hown2 hb1; have hbel3 := bt hbel2 hb1) | (at_builtin; refine wpList_append_own _ rfl _ _ 38 rfl w.heap.size 5 i0 (.int .u8 0) 1 1 Tryd.underlying38 hi hz0 hz1 hz2 rfl (by decide) _ _ _ rfl (hown3.alloc _) ⟨w1.heap.size, 0, none⟩ 1 1 [byteV u] rfl rfl ?c1 ?c2 ?c3 ?c4 ?c5 ?_))
                  case c1 =>
                    intro j x hj
                    match j, hj with
                    | 0, hj => simp at hj; subst hj; simp [Addr.add, byteV]
                  case c2 => intro x hx; simp at hx; subst hx; rfl
                  case c3 => unfold maxLen; omega
                  case c4 => omega
                  case c5 => have := hbel3.size; simp; omega
                  · intro v' w2 hown' hgrow _
                    go_wp2_with fail
                    go_roundw
                    case rel => exact ⟨u.toNat + 1, by omega, by go_num, Or.inr ⟨rfl, u, _, by rw [Hl.out]; exact Hd.out, by rw [Hl.out]; go_num, by simpa using hown'⟩, (hbel3.alloc hbel3.size _).grown hgrow (by have := hbel3.size; simp; omega) (fun j hj => (hown3.lt j hj).1)⟩
                    case measure => simp [intOf]; omega
                · have hB' : ((s.extract k (k + l.length)).toList == l) = false := by simpa using hB
                  have hno' := W.noForm_step hno (by rw [Hl.out]; exact W.form_no hB')
                  clear hB
                  go_wp2_with (first | (go_at_call 41; refine (Hesc.out _).mono ?_; rintro e w1 ⟨rfl, hb1⟩; have hown3 := own_below hown2 hb1; have hbel3 := bt hbel2 hb1))
                  go_roundw
                  case rel => exact ⟨u.toNat + 1, by omega, by go_num, Or.inl ⟨rfl, rfl, rfl, hno', hown3⟩, hbel3⟩
                  case measure => simp [intOf]; omega
              · have hno' := W.noForm_step hno (by rw [Hl.out]; exact W.form_long (by omega))
                have hA' : (s.size : Int) - (k : Int) < (l.length : Int) := by omega
                clear hA
                go_wp2_with (first | (go_at_call 41; refine (Hesc.out _).mono ?_; rintro e w1 ⟨rfl, hb1⟩; have hown3 := own_below hown2 hb1; have hbel3 := bt hbel2 hb1))
                go_roundw
                case rel => exact ⟨u.toNat + 1, by omega, by go_num, Or.inl ⟨rfl, rfl, rfl, hno', hown3⟩, hbel3⟩
                case measure => simp [intOf]; omega
            · have hno' : W.NoForm (s.data.toList.drop k) 256 := by rwa [show n = 256 from by omega] at hno
              go_wp2_with fail
              go_ret2
              exact ⟨[], 0, rfl, W.reads_none_all hinv hlt Hne.out hno', hbel2⟩
          · obtain ⟨hle, hinv'⟩ := W.qinv_step hinv hk hd
            have hpos := W.escB_pos u
            obtain ⟨m, hm⟩ : ∃ m, (W.escB u).length = m := ⟨_, rfl⟩
            rw [hm] at hle hinv' hpos ⊢
            have Hinv' := Lib.hid hinv'
            clear hinv' hd hm
            by_cases hc : n < 256
            all_goals
              go_wp2_with fail
              go_roundw
              case rel => exact ⟨bs ++ [u], k + m, hle, rfl, Hinv'.out, hown2, hbel2⟩
              case measure => simp [intOf]; omega
      · have hq' : (((s[k]'hlt).toNat : Int) != 34) = false := by simpa using hq
        have h34 : ((s[k]'hlt).toNat : Int) = 34 := by simpa using hq
        have H34 := Lib.hid h34
        have hconv := conv_own hown
        have hks : ((k : Int) == (s.size : Int)) = false := by rw [beq_eq_false_iff_ne]; omega
        clear h34 hq
        go_wp2_with fail
        go_ret2
        exact ⟨bs, k + 1, rfl, W.reads_some hinv hlt H34.out, hbel⟩
    · have hks : k = s.size := by omega
      have Hks := Lib.hid hks
      have hks' : ((k : Int) == (s.size : Int)) = true := by rw [beq_iff_eq]; omega
      clear hks
      go_wp2_with fail
      go_ret2
      exact ⟨[], 0, rfl, W.reads_none_end (by have := hinv; rwa [Hks.out] at this), hbel⟩

set_option maxRecDepth 100000 in
set_option maxHeartbeats 1000000 in
theorem RUnquote_any (s : ByteArray) (w : World) (hs : s.size ≤ 140737488351232) :
    Calls Tryd.prog 18 #[.string s] w fun e w' => ∃ b x, e = .returned (.tuple #[.string ⟨b.toArray⟩, .int .i64 x]) ∧ W.uqE s.data.toList b x ∧ Below w.heap.size w w' := by
  go_enter Tryd.func18, Tryd.ntmps18
  go_wp2_with fail
  refine (quoted_any s w hs).mono ?_
  rintro e w1 ⟨b, n, rfl, hr, hb⟩
  by_cases h0 : n = 0
  · have h0b : ((n : Int) == 0) = true := by simp [h0]
    have Hr := Lib.hid hr
    have H0 := Lib.hid h0
    clear hr h0
    go_wp2_with fail
    go_ret2
    exact ⟨[], 6, rfl, W.uq_zero (by have := Hr.out; rwa [H0.out] at this), hb⟩
  · have h0b : ((n : Int) == 0) = false := by rw [beq_eq_false_iff_ne]; omega
    have hl : s.data.toList.length = s.size := rfl
    have Hr := Lib.hid hr
    have H0 := Lib.hid h0
    by_cases h1 : n = s.size
    · have h1b : ((n : Int) != (s.size : Int)) = false := by simp [h1]
      have H1 := Lib.hid h1
      clear hr h0 hl h1
      go_wp2_with fail
      go_ret2
      exact ⟨b, 0, rfl, W.uq_yes Hr.out H1.out H0.out, hb⟩
    · have h1b : ((n : Int) != (s.size : Int)) = true := by rw [bne_iff_ne]; omega
      have H1 := Lib.hid h1
      clear hr h0 hl h1
      go_wp2_with fail
      go_ret2
      exact ⟨[], 6, rfl, W.uq_no Hr.out H1.out, hb⟩

end Go.Proofs.YtbjfpmklmhgbdaaDoor
