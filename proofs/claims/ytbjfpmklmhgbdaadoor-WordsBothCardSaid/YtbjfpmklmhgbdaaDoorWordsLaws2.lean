/- The walk of WordsSplits. -/
import Derived.Test.YtbjfpmklmhgbdaaDoorWordsRSplit
import Derived.Test.YtbjfpmklmhgbdaaDoorWordsShown
namespace Go.Proofs.YtbjfpmklmhgbdaaDoor
open Go.RowKit Go.Shelf

theorem RSP.splitE {l : List UInt8} {w w' : World} {e : Ending} (h : RSP l w e w') (hl : l.length ≤ 8192) : ∃ v fs x, e = .returned (.tuple #[v, .int .i64 x]) ∧ Fields w' w.heap.size v fs ∧ W.splitE l fs x ∧ Below w.heap.size w w' := by
  obtain ⟨v, fs, x, h1, h2, h3, h4⟩ := h
  exact ⟨v, fs, x, h1, h2, Or.inr ⟨hl, h3⟩, h4⟩

set_option maxRecDepth 100000 in
set_option maxHeartbeats 1000000 in
theorem RSplit_any (s : ByteArray) (w : World) (hs : s.size ≤ 140737488351232) :
    Calls Tryd.prog 22 #[.string s] w fun e w' => ∃ v fs x, e = .returned (.tuple #[v, .int .i64 x]) ∧ Fields w' w.heap.size v fs ∧ W.splitE s.data.toList fs x ∧ Below w.heap.size w w' := by
  have hsl : s.data.toList.length = s.size := rfl
  by_cases h8 : s.size ≤ 8192
  · by_cases h0 : 0 < s.size
    · exact (RSplit_mid s w h8 h0).mono fun _ _ h => h.splitE (by rw [hsl]; exact h8)
    · have hnil : s.data.toList = [] := List.length_eq_zero_iff.1 (by rw [hsl]; omega)
      have hne : s.toList.isEmpty = true := by rw [ByteArray.toList_eq, hnil]; rfl
      have h8' : decide (8192 < (s.size : Int)) = false := decide_eq_false (by omega)
      have Hnil := Lib.hid hnil
      clear hnil hsl
      go_enter Tryd.func22, Tryd.ntmps22
      go_wp2_with fail
      go_ret2
      exact ⟨_, [], 0, rfl, World.ownsRow_nil _ _ _ _, by rw [Hnil.out]; exact Or.inr ⟨by simp, [], true, Or.inl ⟨rfl, rfl, rfl⟩, Or.inr (Or.inr ⟨rfl, rfl, rfl, rfl⟩)⟩, Below.refl _ _⟩
  · have h8' : decide (8192 < (s.size : Int)) = true := decide_eq_true (by omega)
    have Hsl := Lib.hid hsl
    clear hsl
    go_enter Tryd.func22, Tryd.ntmps22
    go_wp2_with fail
    go_ret2
    exact ⟨_, [], 3, rfl, World.ownsRow_nil _ _ _ _, Or.inl ⟨by rw [Hsl.out]; omega, rfl, rfl⟩, Below.refl _ _⟩

theorem own_len0 {w : World} {B : Nat} {v : Value} (h : w.ownsRow B 45 2 v 0 []) : ∃ a c, v = .slice a 0 c := by
  rcases h.2 with ⟨rfl, _⟩ | ⟨g, cap, cur, rfl, _⟩
  · exact ⟨none, 0, rfl⟩
  · exact ⟨_, _, rfl⟩

set_option maxRecDepth 100000 in
set_option maxHeartbeats 1000000 in
theorem RSame_all (B1 B2 : Nat) (v1 v2 : Value) (fs : List FV) (w : World) (hv1 : w.ownsRow B1 45 2 v1 fs.length (fCells fs)) (hv2 : w.ownsRow B2 45 2 v2 fs.length (fCells fs)) (hlen : fs.length ≤ 100) :
    Calls Tryd.prog 23 #[v1, v2] w fun e w' => e = .returned (.bool true) ∧ Below w.heap.size w w' := by
  by_cases h0 : 0 < fs.length
  · exact RSame_eq B1 B2 v1 v2 fs w hv1 hv2 h0 hlen
  · have : fs = [] := List.length_eq_zero_iff.1 (by omega)
    subst this
    obtain ⟨a1, c1, rfl⟩ := own_len0 hv1
    obtain ⟨a2, c2, rfl⟩ := own_len0 hv2
    clear hv1 hv2 h0 hlen
    go_enter Tryd.func23, Tryd.ntmps23
    go_wp2_with fail
    refine wp_loop_rounds 1 ?_
    rw [rounds_succ]
    go_wp2_with fail
    go_ret
    exact ⟨rfl, Below.refl _ _⟩
theorem W.split_len {l : List UInt8} {fs : List FV} {x : Int} (h : W.splitE l fs x) : fs.length ≤ 100 := by
  rcases h with ⟨_, rfl, _⟩ | ⟨_, fs', ok, _, ⟨_, rfl, _⟩ | ⟨_, _, rfl, _⟩ | ⟨_, h, rfl, _⟩⟩
  · simp
  · simp
  · simp
  · unfold W.longF at h
    rw [Bool.or_eq_false_iff] at h
    have := of_decide_eq_false h.2
    omega

set_option maxRecDepth 100000 in
set_option maxHeartbeats 4000000 in
theorem WordsSplits_walk (s : ByteArray) (w : World) (hW : WLaid w) (hs : s.size ≤ maxLen) :
    Calls Tryd.prog 5 #[.string s] w fun e w' => e = .returned (.bool true) ∧ Below w.heap.size w w' := by
  have HW := Lib.hid hW
  have Hs := Lib.hid hs
  clear hW hs
  have hsh := shown_true w HW.out
  by_cases h9 : 9000 < s.size
  · have d1 : decide (9000 < (s.size : Int)) = true := decide_eq_true (by omega)
    have d2 : decide (3000 < (s.size : Int)) = true := decide_eq_true (by omega)
    have d3 : decide ((s.size : Int) ≤ 8192) = false := decide_eq_false (by omega)
    go_enter Tryd.func5, Tryd.ntmps5
    go_wp2_with fail
    refine hsh.mono ?_
    rintro e w1 ⟨rfl, hb1⟩
    go_wp2_with fail
    go_ret
    exact ⟨rfl, hb1⟩
  · by_cases hmid : 3000 < s.size ∧ s.size ≤ 8192
    · have d1 : decide (9000 < (s.size : Int)) = false := decide_eq_false (by omega)
      have d2 : decide (3000 < (s.size : Int)) = true := decide_eq_true (by omega)
      have d3 : decide ((s.size : Int) ≤ 8192) = true := decide_eq_true (by omega)
      clear hmid
      go_enter Tryd.func5, Tryd.ntmps5
      go_wp2_with fail
      refine hsh.mono ?_
      rintro e w1 ⟨rfl, hb1⟩
      go_wp2_with fail
      go_ret
      exact ⟨rfl, hb1⟩
    · have hE := HW.out.esc
      have hs9 : s.size ≤ 9000 := by omega
      have Hs9 := Lib.hid hs9
      clear hsh h9 hs9
      by_cases h3 : 3000 < s.size
      all_goals
        have d1 : decide (9000 < (s.size : Int)) = false := decide_eq_false (by have := Hs9.out; omega)
        first
          | (have d2 : decide (3000 < (s.size : Int)) = true := decide_eq_true (by omega); have d3 : decide ((s.size : Int) ≤ 8192) = false := decide_eq_false (by omega))
          | (have d2 : decide (3000 < (s.size : Int)) = false := decide_eq_false (by omega))
        clear hmid h3
        go_enter Tryd.func5, Tryd.ntmps5
        go_wp2_with fail
        refine (Split_any s w hE (by have := Hs9.out; omega)).mono ?_
        rintro e w1 ⟨v, fs, x, rfl, hF, hsp, hb1⟩
        have HF := Lib.hid hF
        have Hsp := Lib.hid hsp
        have HW1 := Lib.hid (HW.out.below hb1)
        clear hE hF hsp
        go_wp2_with fail
        refine (RSplit_any s w1 (by have := Hs9.out; omega)).mono ?_
        rintro e w2 ⟨v', fs', x', rfl, hF', hsp', hb2⟩
        obtain ⟨rfl, rfl⟩ := W.split_unique Hsp.out hsp'
        have hb12 := hb1.trans (hb2.mono hb1.size)
        have hF2 : Fields w2 w.heap.size v fs := own_below HF.out hb2
        have hS := RSame_all _ _ v v' fs w2 hF2 hF' (W.split_len hsp')
        have HS := Lib.hid hS
        clear hF2 hF' hsp' hS
        go_wp2_with fail
        refine HS.out.mono ?_
        rintro e w3 ⟨rfl, hb3⟩
        have hb13 := hb12.trans (hb3.mono hb12.size)
        have HW3 := Lib.hid (HW.out.below hb13)
        have hsh3 := shown_true w3 HW3.out
        go_wp2_with fail
        refine hsh3.mono ?_
        rintro e w4 ⟨rfl, hb4⟩
        have hb14 := hb13.trans (hb4.mono hb13.size)
        go_wp2_with fail
        go_ret
        exact ⟨rfl, hb14⟩
end Go.Proofs.YtbjfpmklmhgbdaaDoor
