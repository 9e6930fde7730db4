/- Contracts of words.readQuoted and words.Unquote. -/
import Derived.Test.YtbjfpmklmhgbdaaDoorWordsQuo
import Derived.OwnWalk
namespace Go.Proofs.YtbjfpmklmhgbdaaDoor
open Go.RowKit
/-- A byte as a value. -/
def byteV (c : UInt8) : Value := .int .u8 (c.toNat : Int)
theorem info_u8 : (Tryd.prog.info? 5).map (fun i => (i.zero, i.size, i.bytes)) = some (some (.int .u8 0), 1, 1) := by kernel_rfl
theorem own_below {w w1 : World} {base : Nat} {e : TypeId} {size : Nat} {v : Value} {n : Nat} {xs : List Value} (h : w.ownsRow base e size v n xs) (hb : Below w.heap.size w w1) : w1.ownsRow base e size v n xs := by
  refine ⟨h.1, ?_⟩
  rcases h.2 with h | ⟨g, cap, cur, h1, h2, h3, h4⟩
  · exact Or.inl h
  · exact Or.inr ⟨g, cap, cur, h1, h2, (hb.block g (Array.getElem?_eq_some_iff.1 h3).1).trans h3, h4⟩
theorem conv_nil (w : World) : (convert 38 9 (.slice none 0 0)).run Tryd.prog w = .ok (.string ⟨#[]⟩) w := by
  rw [run_convert_bytes_string w 38 9 5 none 0 0 Tryd.underlying38 Tryd.underlying5 Tryd.underlying9]
  rfl
/-- The string of an owned row of bytes. -/
theorem conv_own {w : World} {base : Nat} {v : Value} {bs : List UInt8} (h : w.ownsRow base 5 1 v bs.length (bs.map byteV)) : (convert 38 9 v).run Tryd.prog w = .ok (.string ⟨bs.toArray⟩) w := by
  rcases h.2 with ⟨h1, h2⟩ | ⟨g, cap, cur, h1, _⟩
  · rw [h1, List.length_eq_zero_iff.1 h2]
    exact conv_nil w
  · rw [h1]
    refine run_convert_bytes_back w 38 9 5 ⟨g, 0, none⟩ cap bs Tryd.underlying38 Tryd.underlying5 Tryd.underlying9 (fun j hj => ?_)
    exact h.cells (by rw [h1]; rfl) j (.int .u8 (bs[j].toNat : Int)) (by rw [List.getElem?_map, List.getElem?_eq_getElem hj]; rfl)
namespace W
/-- What has been read in quotes at place k. -/
def QInv (s : ByteArray) (bs : List UInt8) (k : Nat) : Prop := s.data.toList.take k = 34 :: escS bs ∧ bs.length ≤ k
theorem qinv_start {s : ByteArray} (hp : 0 < s.size) (h : ((s[0]'hp).toNat : Int) = 34) : QInv s [] 1 := by
  refine ⟨?_, by simp⟩
  have h1 : s.data.toList[0]'hp = 34 := UInt8.toNat_inj.1 (by rw [← get_list s 0 hp]; exact_mod_cast h)
  match hl : s.data.toList, (show 0 < s.data.toList.length from hp) with
  | x :: r, _ =>
    have : x = 34 := by simpa [hl] using h1
    simp [this, escS]
theorem ext_list (s : ByteArray) (k : Nat) : (s.extract k s.size).data.toList = s.data.toList.drop k := by
  rw [Lib.extract_data]
  exact List.take_of_length_le (by rw [List.length_drop]; exact Nat.le_refl _)
theorem qinv_step {s : ByteArray} {bs : List UInt8} {k : Nat} {u : UInt8} {r : List UInt8} (h : QInv s bs k) (hk : k ≤ s.size) (hd : s.data.toList.drop k = escB u ++ r) : k + (escB u).length ≤ s.size ∧ QInv s (bs ++ [u]) (k + (escB u).length) := by
  have hl : (s.data.toList.drop k).length = s.size - k := by rw [List.length_drop]; rfl
  have hl2 : (escB u).length + r.length = s.size - k := by rw [← hl, hd, List.length_append]
  refine ⟨by omega, ?_, ?_⟩
  · rw [List.take_add, h.1, hd, escS_snoc]
    simp
  · have := h.2
    have := escB_pos u
    simp
    omega
theorem take_drop_begins {s : ByteArray} {bs : List UInt8} {k : Nat} (h : QInv s bs k) : s.data.toList = 34 :: (escS bs ++ s.data.toList.drop k) := by
  have := List.take_append_drop k s.data.toList
  rw [h.1] at this
  exact this.symm
/-- What readQuoted returns: the string and the number of bytes of the quoted form that a string begins with, or nothing. -/
def ReadsQ (l : List UInt8) (b : List UInt8) (n : Nat) : Prop :=
  (∃ r, Begins l b r ∧ n = (escS b).length + 2) ∨ ((∀ b' r', ¬ Begins l b' r') ∧ b = [] ∧ n = 0)
theorem begins_rest {s : ByteArray} {bs b r : List UInt8} {k : Nat} (h : QInv s bs k) (hb : Begins s.data.toList b r) : ∃ b2, s.data.toList.drop k = escS b2 ++ 34 :: r := by
  have h1 := take_drop_begins h
  unfold Begins at hb
  rw [h1] at hb
  injection hb with _ hb
  obtain ⟨b2, _, e⟩ := esc_split _ _ _ _ hb
  exact ⟨b2, e⟩
theorem reads_none_end {s : ByteArray} {bs : List UInt8} (h : QInv s bs s.size) : ReadsQ s.data.toList [] 0 := by
  refine Or.inr ⟨fun b' r' hb => ?_, rfl, rfl⟩
  obtain ⟨b2, e⟩ := begins_rest h hb
  have : s.data.toList.drop s.size = [] := List.drop_eq_nil_of_le (Nat.le_refl _)
  rw [this] at e
  have := congrArg List.length e
  simp at this
theorem reads_none_bad {s : ByteArray} {bs : List UInt8} {k : Nat} {c : Int} (h : QInv s bs k) (hk : k < s.size) (h34 : ((s[k]'hk).toNat : Int) ≠ 34) (hr : rdL (s.data.toList.drop k) = (c, 0)) : ReadsQ s.data.toList [] 0 := by
  refine Or.inr ⟨fun b' r' hb => ?_, rfl, rfl⟩
  obtain ⟨b2, e⟩ := begins_rest h hb
  match b2, e with
  | [], e =>
    apply h34
    have h0 : (s.data.toList.drop k)[0]? = some 34 := by rw [e]; rfl
    rw [List.getElem?_drop, Nat.add_zero, List.getElem?_eq_getElem hk] at h0
    rw [get_list s k hk, Option.some.inj h0]
    rfl
  | d :: b2, e =>
    rw [e] at hr
    simp only [escS, List.flatMap_cons, List.append_assoc] at hr
    rw [rd_esc] at hr
    injection hr with _ h2
    have := escB_pos d
    omega
theorem reads_some {s : ByteArray} {bs : List UInt8} {k : Nat} (h : QInv s bs k) (hk : k < s.size) (h34 : ((s[k]'hk).toNat : Int) = 34) : ReadsQ s.data.toList bs (k + 1) := by
  refine Or.inl ⟨s.data.toList.drop (k + 1), ?_, ?_⟩
  · unfold Begins
    have h1 := take_drop_begins h
    have h2 : s.data.toList.drop k = 34 :: s.data.toList.drop (k + 1) := by
      rw [List.drop_eq_getElem_cons hk]
      congr 1
      rw [← get_list s k hk]
      exact UInt8.toNat_inj.1 (by exact_mod_cast h34)
    rw [← h2]
    exact h1
  · have := congrArg List.length h.1
    rw [List.length_take, List.length_cons] at this
    have hl : s.data.toList.length = s.size := rfl
    omega
theorem reads_none_first {s : ByteArray} (h : ∀ r, s.data.toList ≠ 34 :: r) : ReadsQ s.data.toList [] 0 :=
  Or.inr ⟨fun _ _ hb => h _ hb, rfl, rfl⟩
end W
theorem HasPrefix_any (s p : ByteArray) (w : World) :
    Calls Tryd.prog 60 #[.string s, .string p] w fun e w' => e = .returned (.bool (Lib.hasPrefix s.data.toList p.data.toList)) ∧ w = w' :=
  (Tryd.strings_HasPrefix s p w).mono fun _ _ ⟨h1, h2⟩ => ⟨h1, h2.symm⟩
theorem readEscaped_as (s : ByteArray) (c n : Int) (w : World) (h : W.rdP s = (c, n)) (hE : EscIn w) (hp : 0 < s.size) (hs : s.size ≤ maxLen) :
    Calls Tryd.prog 61 #[.string s] w fun e w' => e = .returned (.tuple #[.int .u8 c, .int .i64 n]) ∧ Below w.heap.size w w' := by
  have := readEscaped_any s w hE hp hs
  rwa [h] at this

set_option maxRecDepth 100000 in
set_option maxHeartbeats 2000000 in
theorem readQuoted_any (s : ByteArray) (w : World) (hE : EscIn w) (hs : s.size ≤ 140737488351232) :
    Calls Tryd.prog 38 #[.string s] w fun e w' => ∃ b n, e = .returned (.tuple #[.string ⟨b.toArray⟩, .int .i64 (n : Nat)]) ∧ W.ReadsQ s.data.toList b n ∧ Below w.heap.size w w' := by
  by_cases hq : Lib.hasPrefix s.data.toList [34] = true
  case neg =>
    have hr : W.ReadsQ s.data.toList [] 0 := W.reads_none_first (fun r e => hq (by rw [e]; simp [Lib.hasPrefix]))
    have hq' : Lib.hasPrefix s.data.toList [34] = false := by simpa using hq
    clear hq
    go_enter Tryd.func38, Tryd.ntmps38
    go_wp2_with (first | (go_at_call 60; refine (HasPrefix_any _ _ _).mono ?_; rintro e w' ⟨rfl, rfl⟩))
    go_ret2
    exact ⟨[], 0, rfl, hr, Below.refl _ _⟩
  case pos =>
  have hp : 0 < s.size := by
    refine Nat.pos_of_ne_zero fun e => ?_
    have : s.data.toList = [] := List.length_eq_zero_iff.1 e
    rw [this] at hq
    simp [Lib.hasPrefix] at hq
  have h34 : ((s[0]'hp).toNat : Int) = 34 := by
    rw [W.get_list]
    match hl : s.data.toList, hq, (show 0 < s.data.toList.length from hp) with
    | x :: r, hq, _ =>
      simp [Lib.hasPrefix] at hq
      simp [← hq]
  have hst := W.qinv_start hp h34
  clear h34
  obtain ⟨i0, hi, hz0, hz1, hz2⟩ := info_parts info_u8
  go_enter Tryd.func38, Tryd.ntmps38
  go_wp2_with (first | (go_at_call 60; refine (HasPrefix_any _ _ _).mono ?_; rintro e w' ⟨rfl, rfl⟩))
  clear hq
  go_loopw [4, 5] (fun v i wr => ∃ (bs : List UInt8) (k : Nat), k ≤ s.size ∧ i = .int .i64 k ∧ W.QInv s bs k ∧ wr.ownsRow w.heap.size 5 1 v bs.length (bs.map byteV) ∧ Below w.heap.size w wr) (fun _ i _ => s.size - (intOf i).toNat)
  case atStart => exact ⟨[], 1, hp, rfl, hst, World.ownsRow_nil _ _ _ _, Below.refl _ _⟩
  case round =>
    obtain ⟨bs, k, hk, rfl, hinv, hown, hbel⟩ := hrel
    have hlen := hinv.2
    have hconv := conv_own hown
    by_cases hlt : k < s.size
    · by_cases hq : (((s[k]'hlt).toNat : Int) == 34) = true
      · go_wp2_with fail
        go_ret2
        exact ⟨bs, k + 1, rfl, W.reads_some hinv hlt (by simpa using hq), hbel⟩
      · have hq' : (((s[k]'hlt).toNat : Int) == 34) = false := by simpa using hq
        have hne : ((s[k]'hlt).toNat : Int) ≠ 34 := by simpa using hq
        obtain ⟨c, n, hcn⟩ : ∃ c n, W.rdP (s.extract k s.size) = (c, n) := ⟨_, _, rfl⟩
        have hz : 0 < (s.extract k s.size).size := by simp [ByteArray.size_extract]; omega
        have hz2' : (s.extract k s.size).size ≤ maxLen := by simp [ByteArray.size_extract]; unfold maxLen; omega
        have hdl := hcn
        rw [W.rdP_list, W.ext_list] at hdl
        have hE' := hE.below hbel
        have Hc := Lib.hid hcn
        have Hd := Lib.hid hdl
        have Hz := Lib.hid hz
        have Hz2 := Lib.hid hz2'
        have Hne := Lib.hid hne
        clear hcn hdl hq hz hz2' hne
        by_cases hn : n = 0
        · have hn0 := hn
          have Hn := Lib.hid hn0
          have hnb : (n == 0) = true := by simp [hn]
          clear hn hn0
          go_wp2_with (first | (go_at_call 61; refine (readEscaped_as _ c n _ Hc.out hE' Hz.out Hz2.out).mono ?_; rintro e w1 ⟨rfl, hb⟩))
          go_ret2
          exact ⟨[], 0, rfl, W.reads_none_bad hinv hlt Hne.out (by rw [Hd.out, Hn.out]), bt hbel hb⟩
        · have hnb : (n == 0) = false := by simp [hn]
          obtain ⟨u, r, hu, hc1, hn1⟩ := W.rd_sound (fun e => by have := congrArg List.length e; rw [List.length_drop] at this; have hl : s.data.toList.length = s.size := rfl; simp at this; omega) Hd.out hn
          obtain ⟨hle, hinv'⟩ := W.qinv_step hinv hk hu
          have hpos := W.escB_pos u
          obtain ⟨m, hm⟩ : ∃ m, (W.escB u).length = m := ⟨_, rfl⟩
          rw [hm] at hle hinv' hpos hn1
          have Hinv' := Lib.hid hinv'
          have Hc2 : Hid (W.rdP (s.extract k s.size) = ((u.toNat : Int), (m : Int))) := Lib.hid (by rw [Hc.out, hc1, hn1])
          have hmb : ((m : Int) == 0) = false := by rw [beq_eq_false_iff_ne]; omega
          clear hinv' hm hu Hd Hc hn hnb hc1 hn1
          go_wp2_with (first | (go_at_call 61; refine (readEscaped_as _ (u.toNat : Int) (m : Int) _ Hc2.out hE' Hz.out Hz2.out).mono ?_; rintro e w1 ⟨rfl, hb⟩; have hown1 := own_below hown hb; have hbel1 := bt hbel hb) | (at_builtin; refine wpList_append_own _ rfl _ _ 38 rfl w.heap.size 5 i0 (.int .u8 0) 1 1 Tryd.underlying38 hi hz0 hz1 hz2 rfl (by decide) _ _ _ rfl (hown1.alloc _) ⟨w1.heap.size, 0, none⟩ 1 1 [byteV u] rfl rfl ?c1 ?c2 ?c3 ?c4 ?c5 ?_))
          case c1 =>
            intro j x hj
            match j, hj with
            | 0, hj => simp at hj; subst hj; simp [Addr.add, byteV]
          case c2 => intro x hx; simp at hx; subst hx; rfl
          case c3 => unfold maxLen; omega
          case c4 => omega
          case c5 => have := hbel1.size; simp; omega
          · intro v' w2 hown' hgrow _
            go_wp2_with fail
            go_roundw
            case rel => exact ⟨bs ++ [u], k + m, hle, by go_num, Hinv'.out, by simpa using hown', (hbel1.alloc hbel1.size _).grown hgrow (by have := hbel1.size; simp; omega) (fun j hj => (hown1.lt j hj).1)⟩
            case measure => simp [intOf]; omega
    · have hks : k = s.size := by omega
      have Hks := Lib.hid hks
      clear hks
      go_wp2_with fail
      go_ret2
      exact ⟨[], 0, rfl, W.reads_none_end (by have := hinv; rwa [Hks.out] at this), hbel⟩

namespace W
/-- The whole string is a quoted form. -/
def uqE (l b : List UInt8) (e : Int) : Prop := (l = 34 :: (escS b ++ [34]) ∧ e = 0) ∨ ((∀ b', l ≠ 34 :: (escS b' ++ [34])) ∧ b = [] ∧ e = 6)
theorem uq_no {l b : List UInt8} {n : Nat} (h : ReadsQ l b n) (hn : n ≠ l.length) : uqE l [] 6 := by
  refine Or.inr ⟨fun b' e => ?_, rfl, rfl⟩
  have hb : Begins l b' [] := e
  rcases h with ⟨r, h1, h2⟩ | ⟨h1, _, _⟩
  · obtain ⟨rfl, rfl⟩ := begins_one h1 hb
    apply hn
    rw [e, h2]
    simp
  · exact h1 _ _ hb
theorem uq_zero {l b : List UInt8} (h : ReadsQ l b 0) : uqE l [] 6 := by
  refine Or.inr ⟨fun b' e => ?_, rfl, rfl⟩
  have hb : Begins l b' [] := e
  rcases h with ⟨r, h1, h2⟩ | ⟨h1, _, _⟩
  · omega
  · exact h1 _ _ hb
theorem uq_yes {l b : List UInt8} {n : Nat} (h : ReadsQ l b n) (hn : n = l.length) (h0 : n ≠ 0) : uqE l b 0 := by
  rcases h with ⟨r, h1, h2⟩ | ⟨_, _, h⟩
  · refine Or.inl ⟨?_, rfl⟩
    unfold Begins at h1
    have := congrArg List.length h1
    simp at this
    have hr : r = [] := List.length_eq_zero_iff.1 (by omega)
    rw [h1, hr]
  · exact absurd h h0
theorem reads_le {l b : List UInt8} {n : Nat} (h : ReadsQ l b n) : n ≤ l.length := by
  rcases h with ⟨r, h1, h2⟩ | ⟨_, _, h⟩
  · unfold Begins at h1
    rw [h1, h2]
    simp
  · omega
end W

set_option maxRecDepth 100000 in
set_option maxHeartbeats 1000000 in
theorem Unquote_any (s : ByteArray) (w : World) (hE : EscIn w) (hs : s.size ≤ 140737488351232) :
    Calls Tryd.prog 17 #[.string s] w fun e w' => ∃ b x, e = .returned (.tuple #[.string ⟨b.toArray⟩, .int .i64 x]) ∧ W.uqE s.data.toList b x ∧ Below w.heap.size w w' := by
  go_enter Tryd.func17, Tryd.ntmps17
  go_wp2_with fail
  refine (readQuoted_any s w hE hs).mono ?_
  rintro e w1 ⟨b, n, rfl, hr, hb⟩
  by_cases h0 : n = 0
  · have h0b : ((n : Int) == 0) = true := by simp [h0]
    have Hr := Lib.hid hr
    have H0 := Lib.hid h0
    clear hr h0
    go_wp2_with fail
    go_ret2
    exact ⟨[], 6, rfl, W.uq_zero (by have := Hr.out; rwa [H0.out] at this), hb⟩
  · have h0b : ((n : Int) == 0) = false := by rw [beq_eq_false_iff_ne]; omega
    have hle := W.reads_le hr
    have hl : s.data.toList.length = s.size := rfl
    rw [hl] at hle
    have Hr := Lib.hid hr
    have H0 := Lib.hid h0
    clear hr h0 hl
    by_cases h1 : n < s.size
    · go_wp2_with fail
      go_ret2
      exact ⟨[], 6, rfl, W.uq_no Hr.out (by have hl : s.data.toList.length = s.size := rfl; omega), hb⟩
    · go_wp2_with fail
      go_ret2
      exact ⟨b, 0, rfl, W.uq_yes Hr.out (by have hl : s.data.toList.length = s.size := rfl; omega) H0.out, hb⟩

end Go.Proofs.YtbjfpmklmhgbdaaDoor
