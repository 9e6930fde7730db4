/- slices.SortedFunc of a slice of spans: they all, by where they begin. -/
import Derived.Test.YtnehllkklmdpfaaDoorTmSort
namespace Go.Proofs.YtnehllkklmdpfaaDoor
open Go.RowKit Go.Shelf
open T (SV)
set_option linter.unusedSimpArgs false
set_option maxRecDepth 100000
theorem flat_at (l : List SV) (j : Nat) (h : j < l.length * 2) : (spCells l)[j]? = some ((Sort.flatK encP 2 l.toArray)[j]!) := by
  rw [Sort.get_flatK encP 2 l.toArray j (by simpa using h)]
  have hk : j / 2 < l.length := by omega
  obtain ⟨h0, h1⟩ := spCells_at l (j / 2) hk
  have e1 : l.toArray[j / 2]! = l[j / 2] := by simp [hk]
  rw [e1]
  rcases Nat.mod_two_eq_zero_or_one j with e | e
  · have e2 : j / 2 * 2 = j := by omega
    rw [e2] at h0
    rw [h0, e]; rfl
  · have e2 : j / 2 * 2 + 1 = j := by omega
    rw [e2] at h1
    rw [h1, e]; rfl
theorem holds_own {w : World} {base g cap n : Nat} {l : List SV} (h : OwnSp w base (.slice (some ⟨g, 0, none⟩) n cap) l) : Sort.HoldsK encP 2 w g 0 l.toArray := by
  rcases h.2 with ⟨e, _⟩ | ⟨g', cap', cur, e, hb, hg, h1, h2, h3, h4⟩
  · cases e
  · injection e with e1 e2 e3
    injection e1 with e1
    injection e1 with e1
    subst e1
    intro j hj
    have hj2 : j < l.length * 2 := by rw [Sort.size_flatK] at hj; simpa using hj
    have hc := World.ownsRow.cells h (g := g) rfl j _ (flat_at l j hj2)
    rw [addr_lit] at hc
    exact ⟨hc, by simp [World.frozen?, hg]⟩
theorem below_grow0 {B : Nat} {w0 w : World} (h : Below B w0 w) (hB : B ≤ w.heap.size) (os : Array Obj) : Below B w0 (Sort.grow w os) :=
  h.trans ⟨rfl, rfl, rfl, by show w.heap.size ≤ (w.heap ++ os).size; rw [Array.size_append]; omega, fun j hj => by show (w.heap ++ os)[j]? = w.heap[j]?; rw [Array.getElem?_append_left (by omega)]⟩
theorem sorted_reads {w : World} {g cap n : Nat} {l : List SV} {d' : Array SV} {os : Array Obj} {base : Nat} (h : OwnSp w base (.slice (some ⟨g, 0, none⟩) l.length cap) l) (hn : ∀ s ∈ l, T.R64 s.1 ∧ T.R64 s.2) (hp : Sort.PermIn 0 l.toArray.size l.toArray d') :
    SpIn (sortWorldK encP 2 w g 0 n d' os) (sortWorldK encP 2 w g 0 n d' os).heap.size (some ⟨g, 0, none⟩) cap d'.toList ∧ d'.toList.Perm l ∧ Below base w (sortWorldK encP 2 w g 0 n d' os) := by
  have hH := holds_own h
  have hlt := h.lt g rfl
  have hsz : d'.size = l.length := hp.1
  have hperm : d'.toList.Perm l := by
    have := hp.2.2
    rw [Array.extract_eq_self_of_le (by rw [hsz]; simp)] at this
    simpa using this
  have hcapm : l.length ≤ cap ∧ cap ≤ maxLen := by
    rcases h.2 with ⟨e, _⟩ | ⟨g', cap', cur, e, hb, hg, h1, h2, h3, h4⟩
    · cases e
    · injection e with e1 e2 e3
      subst e3
      exact ⟨h1, h2⟩
  have hput : Sort.HoldsK encP 2 (Sort.putRowK encP 2 (Sort.ahead w n) g 0 d') g 0 d' := Sort.holdsK_putRowK encP 2 (Sort.ahead w n) g 0 l.toArray d' (Sort.holdsK_ahead encP 2 w n g 0 _ hH) (by simp [hsz])
  have hbp : Below base w (Sort.putRowK encP 2 (Sort.ahead w n) g 0 d') := Lib.below_putRow (enc := id) (d := Sort.flatK encP 2 d') (Below.refl base w) hlt.1
  have hps : w.heap.size ≤ (Sort.putRowK encP 2 (Sort.ahead w n) g 0 d').heap.size := hbp.size
  have hfin : Sort.HoldsK encP 2 (sortWorldK encP 2 w g 0 n d' os) g 0 d' := Sort.holdsK_grow encP 2 _ os g 0 d' (by omega) hput
  have hbl : Below base w (sortWorldK encP 2 w g 0 n d' os) := below_grow0 hbp (by omega) os
  refine ⟨⟨by rw [Array.length_toList, hsz]; exact hcapm.1, hcapm.2, fun e => (by cases e), fun ad e k hk => ?_, fun s hs => hn s (hperm.mem_iff.1 hs)⟩, hperm, hbl⟩
  injection e with e
  subst e
  have hk' : k < d'.size := by simpa using hk
  have hg' : d'[k]! = d'.toList[k] := by rw [getElem!_pos d' k hk']; simp
  have c0 := (Sort.HoldsK.cell hfin hk' (c := 0) (by omega)).1
  have c1 := (Sort.HoldsK.cell hfin hk' (c := 1) (by omega)).1
  rw [hg'] at c0 c1
  refine ⟨by have := hbl.size; show g < _; omega, ?_, ?_⟩
  · rw [addr_lit]; simpa [encP] using c0
  · rw [addr_lit]; simpa [encP, Nat.add_assoc] using c1
theorem insertion_nil (cap : Nat) (fv : Value) (w : World) :
    Calls Tryd.prog 77 #[.slice none 0 cap, .int .i64 0, .int .i64 0, fv] w fun e w' => e = .returned (.tuple #[]) ∧ w = w' := by
  go_enter Tryd.func77, Tryd.ntmps77
  go_wp2_with fail
  refine wp_loop_rounds 1 ?_
  rw [rounds_succ]
  go_wp2_with fail
  go_end0
  exact ⟨rfl, rfl⟩
theorem pdq_nil (cap : Nat) (lim : Int) (fv : Value) (w : World) :
    Calls Tryd.prog 69 #[.slice none 0 cap, .int .i64 0, .int .i64 0, .int .i64 lim, fv] w fun e w' => e = .returned (.tuple #[]) ∧ w = w' := by
  go_enter Tryd.func69, Tryd.ntmps69
  go_wp2_with fail
  refine wp_loop_rounds 1 ?_
  rw [rounds_succ]
  go_wp2_with fail
  refine (insertion_nil _ _ _).mono ?_
  rintro e w' ⟨rfl, rfl⟩
  go_wp2_with fail
  (try simp only [Exit.inBlock, Exit.then])
  refine bodyPost_ret (results_none rfl _ _ _) rfl ?_
  exact ⟨rfl, rfl⟩
theorem SortFunc_nil (cap : Nat) (fv : Value) (w : World) :
    Calls Tryd.prog 60 #[.slice none 0 cap, fv] w fun e w' => e = .returned (.tuple #[]) ∧ w = w' := by
  go_enter Tryd.func60, Tryd.ntmps60
  go_wp2_with fail
  refine (Tryd.bits_Len 0 _ (by omega) (by omega)).mono ?_
  rintro e w' ⟨rfl, rfl⟩
  go_wp2_with fail
  refine (pdq_nil _ _ _ _).mono ?_
  rintro e w' ⟨rfl, rfl⟩
  go_wp2_with fail
  go_end0
  exact ⟨rfl, rfl⟩
/-- By where they begin. -/
def ByFrom (l : List SV) : Prop := l.Pairwise fun a b => a.1 ≤ b.1
theorem byFrom_of {d' : Array SV} {n : Nat} (hn : d'.size = n) (h : Sort.SortedIn (ltOf fun x y : SV => Lib.compareInt x.1 y.1) 0 n d') : ByFrom d'.toList := by
  refine List.pairwise_iff_getElem.2 fun i j hi hj hij => ?_
  have hi' : i < d'.size := by simpa using hi
  have hj' : j < d'.size := by simpa using hj
  have := h i j (by omega) hij (by omega)
  rw [ltFrom, getElem!_pos d' i hi', getElem!_pos d' j hj'] at this
  have := of_decide_eq_false this
  simp only [Array.getElem_toList]
  omega
def SortedPost (l : List SV) (w : World) (e : Ending) (w' : World) : Prop := ∃ A c l', e = .returned (.slice A l'.length c) ∧ SpIn w' w'.heap.size A c l' ∧ l'.Perm l ∧ ByFrom l' ∧ Below w.heap.size w w'
theorem SortedFunc_any (A : Option Addr) (c m : Nat) (l : List SV) (c0 : Nat) (w : World) (hc : w.cell? ⟨c0, 0, none⟩ = some (.slice A m c)) (hm : l.length = m) (hl : SpIn w w.heap.size A c l) (hn : m ≤ 1000) :
    Calls Tryd.prog 50 #[.func (.func 61) #[] #[.pointer (some ⟨c0, 0, none⟩)], .func (.func 52) #[] #[]] w (SortedPost l w) := by
  have HC := Lib.hid (Collect_any A c m l c0 w hc hm hl hn)
  have HNum := Lib.hid hl.nums
  have Hm := Lib.hid hm
  clear hc hm hl
  go_enter Tryd.func50, Tryd.ntmps50
  go_wp2_with fail
  refine HC.out.mono ?_
  rintro e w1 ⟨v, rfl, hown, hb⟩
  rcases hown.2 with ⟨rfl, h0⟩ | ⟨g, cap, cur, rfl, hgb, hg, h1, h2, h3, h4⟩
  · have HO : Hid (SortedPost l w (.returned (.slice none 0 0)) w1) := Lib.hid (by
      have : l = [] := List.length_eq_zero_iff.1 h0
      subst this
      exact ⟨none, 0, [], rfl, SpIn.nil_ _ _, List.Perm.refl _, List.Pairwise.nil, hb⟩)
    clear hown h0 hb
    go_wp2_with fail
    refine (SortFunc_nil _ _ _).mono ?_
    rintro e w' ⟨rfl, rfl⟩
    go_wp2_with fail
    go_ret
    exact HO.out
  · have HS := Lib.hid (SortFunc_some g cap l.toArray w1 (holds_own hown) (hown.lt g rfl).2 (by have := Hm.out; simp; omega))
    have Hown := Lib.hid hown
    have Hb := Lib.hid hb
    have hsz : l.toArray.size = l.length := by simp
    clear hown hb h1 h2 h3 h4 hg hgb
    rw [hsz] at HS
    obtain ⟨M, hM⟩ : ∃ M, l.length = M := ⟨_, rfl⟩
    rw [hM] at HS ⊢
    have HM := Lib.hid hM
    clear hM hsz
    go_wp2_with fail
    refine HS.out.mono ?_
    rintro e w2 ⟨rfl, d', n, os, hp, hs, rfl⟩
    have HO : Hid (SortedPost l w (.returned (.slice (some ⟨g, 0, none⟩) M cap)) (sortWorldK encP 2 w1 g 0 n d' os)) := Lib.hid (by
      have hown := Hown.out
      obtain ⟨a1, a2, a3⟩ := sorted_reads (n := n) (os := os) hown HNum.out (by rw [show l.toArray.size = l.length by simp, HM.out]; exact hp)
      have hszd : d'.size = M := hp.1.trans (by simp [HM.out])
      exact ⟨some ⟨g, 0, none⟩, cap, d'.toList, by rw [Array.length_toList, hszd], a1, a2, byFrom_of hszd hs, Hb.out.trans a3⟩)
    generalize sortWorldK encP 2 w1 g 0 n d' os = w2 at HO ⊢
    clear hp hs
    go_wp2_with fail
    go_ret
    exact HO.out
end Go.Proofs.YtnehllkklmdpfaaDoor
