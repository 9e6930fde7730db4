/- far; what Union, Minus and Total return of good lists. -/
import Derived.Test.YtnehllkklmdpfaaDoorTmLaw1
namespace Go.Proofs.YtnehllkklmdpfaaDoor
open Go.RowKit
open T (SV)
set_option linter.unusedSimpArgs false
set_option maxRecDepth 100000
def T.farV (m : Nat) : Bool := decide ((60 < m ∧ m ≤ 200) ∨ 210 < m)
theorem far_any (A : Option Addr) (c m : Nat) (w : World) : Calls Tryd.prog 19 #[.slice A m c] w fun e w' => e = .returned (.bool (T.farV m)) ∧ w = w' := by
  by_cases h1 : 60 < m
  · by_cases h2 : m ≤ 200
    · have H : Hid (T.farV m = true) := Lib.hid (by unfold T.farV; simp; omega)
      have k1 : (60 : Int) < m := by omega
      have k2 : (m : Int) ≤ 200 := by omega
      go_enter Tryd.func19, Tryd.ntmps19
      go_wp2_with fail
      go_ret
      rw [H.out]
      exact ⟨rfl, rfl⟩
    · by_cases h3 : 210 < m
      · have H : Hid (T.farV m = true) := Lib.hid (by unfold T.farV; simp; omega)
        have k1 : (60 : Int) < m := by omega
        have k2 : ¬ (m : Int) ≤ 200 := by omega
        have k3 : (210 : Int) < m := by omega
        have k2' : decide ((m : Int) ≤ 200) = false := decide_eq_false k2
        clear h1 h2 h3 k2
        go_enter Tryd.func19, Tryd.ntmps19
        go_wp2_with fail
        go_ret
        rw [H.out]
        first | exact ⟨rfl, rfl⟩ | (refine ⟨ret_bool ?_, rfl⟩; simp; omega)
      · have H : Hid (T.farV m = false) := Lib.hid (by unfold T.farV; simp; omega)
        have k1 : (60 : Int) < m := by omega
        have k2 : ¬ (m : Int) ≤ 200 := by omega
        have k3 : ¬ (210 : Int) < m := by omega
        have k2' : decide ((m : Int) ≤ 200) = false := decide_eq_false k2
        clear h1 h2 h3 k2
        go_enter Tryd.func19, Tryd.ntmps19
        go_wp2_with fail
        go_ret
        rw [H.out]
        first | exact ⟨rfl, rfl⟩ | (refine ⟨ret_bool ?_, rfl⟩; simp; omega)
  · have H : Hid (T.farV m = false) := Lib.hid (by unfold T.farV; simp; omega)
    have k1 : ¬ (60 : Int) < m := by omega
    have k3 : ¬ (210 : Int) < m := by omega
    go_enter Tryd.func19, Tryd.ntmps19
    go_wp2_with fail
    go_ret
    rw [H.out]
    first | exact ⟨rfl, rfl⟩ | (refine ⟨ret_bool ?_, rfl⟩; simp; omega)
theorem T.listE_of {m : Nat} {l : List SV} (h : m ≤ 200) (g : Good l) : listE m l = 0 := by
  unfold listE
  rw [if_neg (by omega)]
  exact good_errL g
theorem T.listsE_of {m m2 : Nat} {l l2 : List SV} (h : m ≤ 200) (h2 : m2 ≤ 200) (g : Good l) (g2 : Good l2) : listsE m m2 l l2 = 0 := by
  unfold listsE
  rw [if_neg (by omega), if_neg (by omega)]
  exact good_errL (fun s hs => (List.mem_append.1 hs).elim (g s) (g2 s))
theorem Union_good {A : Option Addr} {c m : Nat} {l u : List SV} {w : World} (hl : SpIn w w.heap.size A c l) (hm : l.length = m) (h2 : m ≤ 200) (hg : T.Good l) (hu : T.Canon (T.In l) u) :
    Calls Tryd.prog 24 #[.slice A m c] w (KnownPost u w) := by
  refine (Union_any A c m l w hl hm).mono ?_
  rintro e w' ⟨v, acc, rfl, hown, hc, _, _, hb⟩
  have e0 := T.listE_of h2 hg
  obtain rfl := (hc e0).eq hu
  obtain ⟨A2, c2, rfl, hsp⟩ := hown.reads (hu.good hg.within).nums
  rw [e0]
  exact ⟨A2, c2, rfl, hsp, hb⟩
def MinusPost (a b : List SV) (w : World) (e : Ending) (w' : World) : Prop := ∃ r A c, T.Canon (fun t => T.In a t ∧ ¬ T.In b t) r ∧ e = .returned (.tuple #[.slice A r.length c, .int .i64 0]) ∧ SpIn w' w'.heap.size A c r ∧ Below w.heap.size w w'
theorem Minus_good {A A2 : Option Addr} {c c2 m m2 : Nat} {a b : List SV} {w : World} (hl : SpIn w w.heap.size A c a) (hl2 : SpIn w w.heap.size A2 c2 b) (hm : a.length = m) (hm2 : b.length = m2) (k : m ≤ 200) (k2 : m2 ≤ 200) (hg : T.Good a) (hg2 : T.Good b) :
    Calls Tryd.prog 26 #[.slice A m c, .slice A2 m2 c2] w (MinusPost a b w) := by
  refine (Minus_any A A2 c c2 m m2 a b w hl hl2 hm hm2).mono ?_
  rintro e w' ⟨v, acc, rfl, hown, hc, _, _, hb⟩
  have e0 := T.listsE_of k k2 hg hg2
  have hcc := hc e0
  obtain ⟨A2, c2, rfl, hsp⟩ := hown.reads (hcc.good fun t h => hg.within t h.1).nums
  rw [e0]
  exact ⟨acc, A2, c2, hcc, rfl, hsp, hb⟩
theorem Total_good {A : Option Addr} {c m : Nat} {l u : List SV} {w : World} (hl : SpIn w w.heap.size A c l) (hm : l.length = m) (h2 : m ≤ 200) (hg : T.Good l) (hu : T.Canon (T.In l) u) :
    Calls Tryd.prog 28 #[.slice A m c] w fun e w' => e = .returned (.tuple #[.int .i64 (T.sumL u), .int .i64 0]) ∧ Below w.heap.size w w' := by
  refine (Total_any A c m l w hl hm).mono ?_
  rintro e w' ⟨v, rfl, h, _, hb⟩
  have e0 := T.listE_of h2 hg
  obtain ⟨acc, hc, rfl⟩ := h e0
  obtain rfl := hc.eq hu
  rw [e0]
  exact ⟨rfl, hb⟩
/-- Errors of the two lists, and what they say. -/
theorem T.small_of {m m2 : Nat} (hf : farV m = false) (hf2 : farV m2 = false) (h : m ≤ 200) (h2 : m2 ≤ 200) : m ≤ 60 ∧ m2 ≤ 60 := by
  unfold farV at *
  have a := of_decide_eq_false hf
  have b := of_decide_eq_false hf2
  omega
end Go.Proofs.YtnehllkklmdpfaaDoor
