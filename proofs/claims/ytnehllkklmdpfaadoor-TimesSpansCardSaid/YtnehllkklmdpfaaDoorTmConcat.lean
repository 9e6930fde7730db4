/- Contracts of slices.Concat, of one and of two lists of spans, and of checkLists. -/
import Derived.Test.YtnehllkklmdpfaaDoorTmApp
namespace Go.Proofs.YtnehllkklmdpfaaDoor
open Go.RowKit
open T (SV)
set_option linter.unusedSimpArgs false
set_option maxRecDepth 100000
def OwnPost (l : List SV) (w : World) (e : Ending) (w' : World) : Prop := ∃ v, e = .returned v ∧ OwnSp w' w.heap.size v l ∧ Below w.heap.size w w'
theorem own_post {l : List SV} {w w' : World} {v : Value} (h : OwnSp w' w.heap.size v l) (hb : Below w.heap.size w w') : OwnPost l w (.returned v) w' := ⟨v, rfl, h, hb⟩
set_option maxHeartbeats 2000000 in
theorem Concat_one (g k : Nat) (A : Option Addr) (c m : Nat) (l : List SV) (w : World) (hg : w.cell? ⟨g, 0, none⟩ = some (.slice A m c)) (hb : SpIn w w.heap.size A c l) (hm : l.length = m) (hn : m ≤ 1000) :
    Calls Tryd.prog 49 #[.slice (some ⟨g, 0, none⟩) 1 k] w (OwnPost l w) := by
  have HB := Lib.hid hb
  have Hm := Lib.hid hm
  have hgl : g < w.heap.size := World.block_lt_of_cell? w ⟨g, 0, none⟩ hg
  have HG := Lib.hid hg
  clear hb hm
  go_enter Tryd.func49, Tryd.ntmps49
  go_wp2_with fail
  refine wp_loop_rounds 2 ?_
  rw [rounds_succ]
  go_wp2_with fail
  rw [rounds_succ]
  go_wp2_with fail
  refine (Grow_nil m (by omega) _).mono ?_
  rintro e w1 ⟨v, rfl, hown, hb1⟩
  have hg1 : w1.cell? ⟨g, 0, none⟩ = some (.slice A m c) := (hb1.cell (p := ⟨g, 0, none⟩) hgl).trans HG.out
  clear hg
  go_wp2_with fail
  refine wp_loop_rounds 2 ?_
  rw [rounds_succ]
  go_wp2_with (at_builtin; refine wp_append_sp rfl _ _ rfl w.heap.size v [] rfl hown w.heap.size A m c l rfl Hm.out (HB.out.below hb1) (by simp; omega) hb1.size ?_)
  intro v2 w2 hown2 hb2 _
  have HO : Hid (OwnSp w2 w.heap.size v2 l) := Lib.hid hown2
  have HB2 := Lib.hid (hb1.trans hb2)
  clear hown2 hown hb2
  go_wp2_with fail
  rw [rounds_succ]
  go_wp2_with fail
  go_ret
  exact own_post HO.out HB2.out
set_option maxHeartbeats 2000000 in
theorem Concat_two (g k : Nat) (A A2 : Option Addr) (c c2 m m2 : Nat) (l l2 : List SV) (w : World) (hg : w.cell? ⟨g, 0, none⟩ = some (.slice A m c)) (hg2 : w.cell? ⟨g, 1, none⟩ = some (.slice A2 m2 c2)) (hb : SpIn w w.heap.size A c l) (hb' : SpIn w w.heap.size A2 c2 l2) (hm : l.length = m) (hm2 : l2.length = m2) (hn : m ≤ 1000) (hn2 : m2 ≤ 1000) :
    Calls Tryd.prog 49 #[.slice (some ⟨g, 0, none⟩) 2 k] w (OwnPost (l ++ l2) w) := by
  have HB := Lib.hid hb
  have Hm := Lib.hid hm
  have HB' := Lib.hid hb'
  have Hm2 := Lib.hid hm2
  have hgl : g < w.heap.size := World.block_lt_of_cell? w ⟨g, 0, none⟩ hg
  have HG := Lib.hid hg
  have HG2 := Lib.hid hg2
  have hs1 : IntKind.i64.wrap ((m : Int) + (m2 : Int)) = (m + m2 : Nat) := by rw [show ((m : Int) + (m2 : Int)) = ((m + m2 : Nat) : Int) by omega]; exact IntWalk.i64_in _ (by omega)
  have hs2 : ¬ (((m + m2 : Nat) : Int) < 0) := by omega
  clear hb hm hb' hm2
  obtain ⟨N, hN⟩ : ∃ N, m + m2 = N := ⟨_, rfl⟩
  rw [hN] at hs1 hs2
  have HN := Lib.hid hN
  clear hN
  go_enter Tryd.func49, Tryd.ntmps49
  go_wp2_with fail
  refine wp_loop_rounds 3 ?_
  rw [rounds_succ]
  go_wp2_with fail
  rw [rounds_succ]
  go_wp2_with fail
  rw [rounds_succ]
  go_wp2_with fail
  refine (Grow_nil N (by have := HN.out; omega) _).mono ?_
  rintro e w1 ⟨v, rfl, hown, hb1⟩
  have hg1 : w1.cell? ⟨g, 0, none⟩ = some (.slice A m c) := (hb1.cell (p := ⟨g, 0, none⟩) hgl).trans HG.out
  clear hg hg2
  go_wp2_with fail
  refine wp_loop_rounds 3 ?_
  rw [rounds_succ]
  go_wp2_with (at_builtin; refine wp_append_sp rfl _ _ rfl w.heap.size v [] rfl hown w.heap.size A m c l rfl Hm.out (HB.out.below hb1) (by simp; omega) hb1.size ?_)
  intro v2 w2 hown2 hb2 _
  have hb12 := hb1.trans hb2
  have hown2' : OwnSp w2 w.heap.size v2 l := hown2
  have hg2' : w2.cell? ⟨g, 1, none⟩ = some (.slice A2 m2 c2) := (hb12.cell (p := ⟨g, 1, none⟩) hgl).trans HG2.out
  have HB12 := Lib.hid hb12
  clear hown2 hown hb2 hg1 hb1 hb12
  go_wp2_with fail
  rw [rounds_succ]
  go_wp2_with (at_builtin; refine wp_append_sp rfl _ _ rfl w.heap.size v2 l rfl hown2' w.heap.size A2 m2 c2 l2 rfl Hm2.out (HB'.out.below HB12.out) (by have := Hm.out; omega) HB12.out.size ?_)
  intro v3 w3 hown3 hb3 _
  have HO : Hid (OwnSp w3 w.heap.size v3 (l ++ l2)) := Lib.hid hown3
  have HB3 := Lib.hid (HB12.out.trans hb3)
  clear hown3 hown2' hb3
  go_wp2_with fail
  rw [rounds_succ]
  go_wp2_with fail
  go_ret
  exact own_post HO.out HB3.out
def T.listE (m : Nat) (l : List SV) : Int := if 200 < m then 3 else errL l
set_option maxHeartbeats 2000000 in
theorem checkLists_one (g k : Nat) (A : Option Addr) (c m : Nat) (l : List SV) (w : World) (hg : w.cell? ⟨g, 0, none⟩ = some (.slice A m c)) (hb : SpIn w w.heap.size A c l) (hm : l.length = m) :
    Calls Tryd.prog 39 #[.slice (some ⟨g, 0, none⟩) 1 k] w (ErrPost (T.listE m l) w) := by
  have HB := Lib.hid hb
  have Hm := Lib.hid hm
  have HG := Lib.hid hg
  have hnum := hb.nums
  have HNum := Lib.hid hnum
  clear hb hm hnum
  by_cases h200 : 200 < m
  · have h2 : (200 : Int) < m := by omega
    have HP : Hid (T.listE m l = 3) := Lib.hid (if_pos h200)
    clear h200
    go_enter Tryd.func39, Tryd.ntmps39
    go_wp2_with fail
    refine wp_loop_rounds 2 ?_
    rw [rounds_succ]
    go_wp2_with fail
    go_ret
    exact err_post HP.out (Below.refl _ _)
  · have h2 : ¬ (200 : Int) < m := by omega
    have HP : Hid (T.listE m l = T.errL l) := Lib.hid (if_neg h200)
    go_enter Tryd.func39, Tryd.ntmps39
    go_wp2_with fail
    refine wp_loop_rounds 2 ?_
    rw [rounds_succ]
    go_wp2_with fail
    rw [rounds_succ]
    go_wp2_with fail
    refine (Concat_one g k A c m l w HG.out HB.out Hm.out (by omega)).mono ?_
    rintro e w1 ⟨v, rfl, hown, hb1⟩
    obtain ⟨A3, c3, rfl, hsp⟩ := hown.reads HNum.out
    have HSP := Lib.hid hsp
    rw [Hm.out]
    clear hown hsp
    go_wp2_with fail
    refine (checkAll_any A3 c3 m l w1 HSP.out Hm.out).mono ?_
    rintro e w2 ⟨rfl, hb2⟩
    go_wp2_with fail
    go_ret
    exact err_post HP.out (bt hb1 hb1.size hb2)
def T.listsE (m m2 : Nat) (l l2 : List SV) : Int := if 200 < m then 3 else if 200 < m2 then 3 else errL (l ++ l2)
set_option maxHeartbeats 2000000 in
theorem checkLists_two (g k : Nat) (A A2 : Option Addr) (c c2 m m2 : Nat) (l l2 : List SV) (w : World) (hg : w.cell? ⟨g, 0, none⟩ = some (.slice A m c)) (hg2 : w.cell? ⟨g, 1, none⟩ = some (.slice A2 m2 c2)) (hb : SpIn w w.heap.size A c l) (hb2 : SpIn w w.heap.size A2 c2 l2) (hm : l.length = m) (hm2 : l2.length = m2) :
    Calls Tryd.prog 39 #[.slice (some ⟨g, 0, none⟩) 2 k] w (ErrPost (T.listsE m m2 l l2) w) := by
  have HB := Lib.hid hb
  have Hm := Lib.hid hm
  have HB2 := Lib.hid hb2
  have Hm2 := Lib.hid hm2
  have HG := Lib.hid hg
  have HG2 := Lib.hid hg2
  have HNum : Hid (∀ s ∈ l ++ l2, T.R64 s.1 ∧ T.R64 s.2) := Lib.hid (fun s hs => (List.mem_append.1 hs).elim (hb.nums s) (hb2.nums s))
  clear hb hm hb2 hm2
  by_cases h200 : 200 < m
  · have h2 : (200 : Int) < m := by omega
    have HP : Hid (T.listsE m m2 l l2 = 3) := Lib.hid (if_pos h200)
    clear h200
    go_enter Tryd.func39, Tryd.ntmps39
    go_wp2_with fail
    refine wp_loop_rounds 3 ?_
    rw [rounds_succ]
    go_wp2_with fail
    go_ret
    exact err_post HP.out (Below.refl _ _)
  · have h2 : ¬ (200 : Int) < m := by omega
    by_cases h300 : 200 < m2
    · have h3 : (200 : Int) < m2 := by omega
      have HP : Hid (T.listsE m m2 l l2 = 3) := Lib.hid ((if_neg h200).trans (if_pos h300))
      clear h200 h300
      go_enter Tryd.func39, Tryd.ntmps39
      go_wp2_with fail
      refine wp_loop_rounds 3 ?_
      rw [rounds_succ]
      go_wp2_with fail
      rw [rounds_succ]
      go_wp2_with fail
      go_ret
      exact err_post HP.out (Below.refl _ _)
    · have h3 : ¬ (200 : Int) < m2 := by omega
      have HP : Hid (T.listsE m m2 l l2 = T.errL (l ++ l2)) := Lib.hid ((if_neg h200).trans (if_neg h300))
      go_enter Tryd.func39, Tryd.ntmps39
      go_wp2_with fail
      refine wp_loop_rounds 3 ?_
      rw [rounds_succ]
      go_wp2_with fail
      rw [rounds_succ]
      go_wp2_with fail
      rw [rounds_succ]
      go_wp2_with fail
      refine (Concat_two g k A A2 c c2 m m2 l l2 w HG.out HG2.out HB.out HB2.out Hm.out Hm2.out (by omega) (by omega)).mono ?_
      rintro e w1 ⟨v, rfl, hown, hb1⟩
      obtain ⟨A3, c3, rfl, hsp⟩ := hown.reads HNum.out
      obtain ⟨M, hM⟩ : ∃ M, (l ++ l2).length = M := ⟨_, rfl⟩
      have HSP := Lib.hid hsp
      have HM := Lib.hid hM
      rw [hM]
      clear hown hsp hM
      go_wp2_with fail
      refine (checkAll_any A3 c3 M (l ++ l2) w1 HSP.out HM.out).mono ?_
      rintro e w2 ⟨rfl, hb2⟩
      go_wp2_with fail
      go_ret
      exact err_post HP.out (bt hb1 hb1.size hb2)
end Go.Proofs.YtnehllkklmdpfaaDoor
