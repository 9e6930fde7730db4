/- The contract of shown. -/
import Derived.Test.YtbjfpmklmhgbdaaDoorWordsSame
namespace Go.Proofs.YtbjfpmklmhgbdaaDoor
open Go.RowKit
namespace W
theorem reads_unique {l b b' : List UInt8} {n n' : Nat} (h : ReadsQ l b n) (h' : ReadsQ l b' n') : b = b' ∧ n = n' := by
  rcases h with ⟨r, h1, h2⟩ | ⟨h1, h2, h3⟩ <;> rcases h' with ⟨r', h1', h2'⟩ | ⟨h1', h2', h3'⟩
  · obtain ⟨rfl, rfl⟩ := begins_one h1 h1'
    exact ⟨rfl, by rw [h2, h2']⟩
  · exact absurd h1 (h1' _ _)
  · exact absurd h1' (h1 _ _)
  · exact ⟨by rw [h2, h2'], by rw [h3, h3']⟩
theorem fread_unique {r s s' : List UInt8} {q q' : Bool} {n n' : Nat} (h : FRead r s q n) (h' : FRead r s' q' n') : s = s' ∧ q = q' ∧ n = n' := by
  rcases h with ⟨h1, h2, h3⟩ | ⟨h1, h2, h3, h4⟩ <;> rcases h' with ⟨h1', h2', h3'⟩ | ⟨h1', h2', h3', h4'⟩
  · obtain ⟨e1, e2⟩ := reads_unique h3 h3'
    exact ⟨e1, by rw [h1, h1'], e2⟩
  · exact absurd h2 h2'
  · exact absurd h2' h2
  · exact ⟨by rw [h4, h4', h3, h3'], by rw [h1, h1'], by rw [h3, h3']⟩
theorem lex_unique : ∀ (fs fs' : List FV) (r : List UInt8) (ok ok' : Bool), Lex r fs ok → Lex r fs' ok' → fs = fs' ∧ ok = ok'
  | [], [], r, ok, ok', h, h' => by
    obtain ⟨h, _⟩ := h
    obtain ⟨h', _⟩ := h'
    exact ⟨rfl, by rw [h, h']⟩
  | [], f :: fs', r, ok, ok', h, h' => by
    obtain ⟨_, s, q, n, h1, h2⟩ := h
    obtain ⟨n', h1', h2', _⟩ := h'
    obtain ⟨_, _, rfl⟩ := fread_unique h1 h1'
    exact absurd h2 h2'
  | f :: fs, [], r, ok, ok', h, h' => by
    obtain ⟨_, s, q, n, h1, h2⟩ := h'
    obtain ⟨n', h1', h2', _⟩ := h
    obtain ⟨_, _, rfl⟩ := fread_unique h1 h1'
    exact absurd h2 h2'
  | (a, q) :: fs, (a', q') :: fs', r, ok, ok', h, h' => by
    obtain ⟨n, h1, h2, h3⟩ := h
    obtain ⟨n', h1', h2', h3'⟩ := h'
    obtain ⟨e1, e2, rfl⟩ := fread_unique h1 h1'
    replace e1 : a = a' := e1
    replace e2 : q = q' := e2
    rcases h3 with ⟨h4, h5, h6⟩ | ⟨h4, h5⟩ <;> rcases h3' with ⟨h4', h5', h6'⟩ | ⟨h4', h5'⟩
    · exact ⟨by rw [e1, e2, h5, h5'], by rw [h6, h6']⟩
    · omega
    · omega
    · obtain ⟨e3, e4⟩ := lex_unique fs fs' _ ok ok' h5 h5'
      exact ⟨by rw [e1, e2, e3], e4⟩
theorem line_unique {l : List UInt8} {fs fs' : List FV} {ok ok' : Bool} (h : LineF l fs ok) (h' : LineF l fs' ok') : fs = fs' ∧ ok = ok' := by
  rcases h with ⟨h1, h2, h3⟩ | ⟨h1, h2⟩ <;> rcases h' with ⟨h1', h2', h3'⟩ | ⟨h1', h2'⟩
  · exact ⟨by rw [h2, h2'], by rw [h3, h3']⟩
  · exact absurd h1 h1'
  · exact absurd h1' h1
  · exact lex_unique _ _ _ _ _ h2 h2'
theorem split_unique {l : List UInt8} {fs fs' : List FV} {x x' : Int} (h : splitE l fs x) (h' : splitE l fs' x') : fs = fs' ∧ x = x' := by
  rcases h with ⟨h1, h2, h3⟩ | ⟨h1, a, ok, h2, h3⟩ <;> rcases h' with ⟨h1', h2', h3'⟩ | ⟨h1', a', ok', h2', h3'⟩
  · exact ⟨by rw [h2, h2'], by rw [h3, h3']⟩
  · omega
  · omega
  · obtain ⟨rfl, rfl⟩ := line_unique h2 h2'
    rcases h3 with ⟨e1, e2, e3⟩ | ⟨e1, e2, e3, e4⟩ | ⟨e1, e2, e3, e4⟩ <;> rcases h3' with ⟨e1', e2', e3'⟩ | ⟨e1', e2', e3', e4'⟩ | ⟨e1', e2', e3', e4'⟩ <;> simp_all
theorem uq_unique {l b b' : List UInt8} {x x' : Int} (h : uqE l b x) (h' : uqE l b' x') : b = b' ∧ x = x' := by
  rcases h with ⟨h1, h2⟩ | ⟨h1, h2, h3⟩ <;> rcases h' with ⟨h1', h2'⟩ | ⟨h1', h2', h3'⟩
  · have hb : Begins l b [] := h1
    have hb' : Begins l b' [] := h1'
    exact ⟨(begins_one hb hb').1, by rw [h2, h2']⟩
  · exact absurd h1 (h1' _)
  · exact absurd h1' (h1 _)
  · exact ⟨by rw [h2, h2'], by rw [h3, h3']⟩
/-- The line of the examples. -/
def shLine : List UInt8 := [103, 101, 116, 32, 47, 32, 34, 97, 32, 98, 34]
def shFields : List FV := [([103, 101, 116], false), ([47], false), ([97, 32, 98], true)]
theorem sh_split : splitE shLine shFields 0 := by
  refine Or.inr ⟨by decide, shFields, true, Or.inr ⟨by decide, ?_⟩, Or.inr (Or.inr ⟨rfl, by decide, rfl, rfl⟩)⟩
  refine ⟨3, Or.inr ⟨rfl, by decide, by decide, by decide⟩, by unfold badAt; decide, Or.inr ⟨by decide, ?_⟩⟩
  refine ⟨1, Or.inr ⟨rfl, by decide, by decide, by decide⟩, by unfold badAt; decide, Or.inr ⟨by decide, ?_⟩⟩
  refine ⟨5, Or.inl ⟨rfl, by decide, Or.inl ⟨[], by unfold Begins; decide, by decide⟩⟩, by unfold badAt; decide, Or.inl ⟨by decide, rfl, rfl⟩⟩
def shQuo : List UInt8 := [34, 97, 92, 110, 92, 120, 48, 48, 92, 34, 34]
theorem sh_uq : uqE shQuo [97, 10, 0, 34] 0 := Or.inl ⟨by decide, rfl⟩
def shList : List Int := [1, 2, 3, 5, 8, 9]
theorem sh_list : Lib.join (texts shList shList.length 0) [44] = [49, 45, 51, 44, 53, 44, 56, 45, 57] := by kernel_rfl
end W
theorem W.sh_rng (j : Nat) : 0 ≤ W.nth W.shList j ∧ W.nth W.shList j ≤ 1000000000 := by
  match j with
  | 0 => decide
  | 1 => decide
  | 2 => decide
  | 3 => decide
  | 4 => decide
  | 5 => decide
  | j + 6 => simp [W.nth, W.shList]
theorem W.sh_asc (j : Nat) (h : j + 1 < W.shList.length) : W.nth W.shList j < W.nth W.shList (j + 1) := by
  match j with
  | 0 => decide
  | 1 => decide
  | 2 => decide
  | 3 => decide
  | 4 => decide
  | j + 5 => simp [W.shList] at h; omega
theorem lit_cells (w : World) (e : TypeId) (j : Nat) (h : j < W.shList.length) : (w.alloc (.cells #[.int .i64 1, .int .i64 2, .int .i64 3, .int .i64 5, .int .i64 8, .int .i64 9] e)).cell? ⟨w.heap.size, 0 + j, none⟩ = some (.int .i64 (W.nth W.shList j)) := by
  rw [cell_of_row _ w.heap.size (0 + j) _ e (0, 0) (heap_alloc_new w _)]
  match j with
  | 0 => rfl
  | 1 => rfl
  | 2 => rfl
  | 3 => rfl
  | 4 => rfl
  | 5 => rfl
  | j + 6 => simp [W.shList] at h; omega
/-- The variables that the package words reads are as they are laid. -/
structure WLaid (w : World) : Prop where
  esc : EscIn w
  pow : PowIn w
  err : ∃ tp p, w.var? Tryd.prog "strconv.ErrRange" = some #[.iface tp p]
theorem err_named : Tryd.prog.globalNamed "strconv.ErrRange" = some 2 := by kernel_rfl
theorem var?_lt {P : Program} {w : World} {n : String} {g : Nat} {cs : Array Value} (hg : P.globalNamed n = some g) (h : w.var? P n = some cs) : g < w.heap.size := by
  unfold World.var? at h
  rw [hg] at h
  simp only [Option.bind_some] at h
  rcases Nat.lt_or_ge g w.heap.size with h' | h'
  · exact h'
  · rw [Array.getElem?_eq_none h'] at h; cases h
theorem WLaid.powlt {w : World} (h : WLaid w) : 3 < w.heap.size := var?_lt pow_named h.pow
theorem WLaid.below {w w1 : World} (h : WLaid w) (hb : Below w.heap.size w w1) : WLaid w1 := by
  obtain ⟨tp, p, he⟩ := h.err
  exact ⟨h.esc.below hb, h.pow.below hb h.powlt, ⟨tp, p, var?_below hb err_named (var?_lt err_named he) he⟩⟩

set_option maxRecDepth 100000 in
set_option maxHeartbeats 4000000 in
theorem shown_true (w : World) (hW : WLaid w) :
    Calls Tryd.prog 10 #[] w fun e w' => e = .returned (.bool true) ∧ Below w.heap.size w w' := by
  have hE := hW.esc
  have HW := Lib.hid hW
  clear hW
  go_enter Tryd.func10, Tryd.ntmps10
  go_wp2_with fail
  refine (Split_any _ w hE (by decide)).mono ?_
  rintro e w1 ⟨v, fs, x, rfl, hF, hsp, hb1⟩
  obtain ⟨rfl, rfl⟩ := W.split_unique hsp W.sh_split
  have HF := Lib.hid hF
  have HW1 := Lib.hid (HW.out.below hb1)
  clear hsp hE hF
  obtain ⟨tp, p, he1⟩ := HW1.out.err
  go_wp2_with fail
  refine (Int_any _ (-20) 20 w1 (by decide) tp p he1).mono ?_
  rintro e w2 ⟨rfl, hb2⟩
  have hb12 := hb1.trans (hb2.mono hb1.size)
  have HW2 := Lib.hid (HW.out.below hb12)
  have hn1 : W.intN ⟨#[45, 49, 50]⟩ (-20) 20 = -12 := by kernel_rfl
  have hn2 : W.intE ⟨#[45, 49, 50]⟩ (-20) 20 = 0 := by kernel_rfl
  rw [hn1, hn2]
  clear hn1 hn2 he1
  go_wp2_with fail
  obtain ⟨w3, hw3⟩ : ∃ w3, w3 = w2.alloc (.cells #[.int .i64 1, .int .i64 2, .int .i64 3, .int .i64 5, .int .i64 8, .int .i64 9] 3) := ⟨_, rfl⟩
  have hlit := lit_cells w2 3
  rw [← hw3] at hlit ⊢
  have hb23 : Below w2.heap.size w2 w3 := by rw [hw3]; exact (Below.refl _ w2).alloc (Nat.le_refl _) _
  have hg3 : w2.heap.size < w3.heap.size := by rw [hw3]; simp
  have hb13 := hb12.trans (hb23.mono hb12.size)
  have HW3 := Lib.hid (HW.out.below hb13)
  clear hw3
  refine (List_any w2.heap.size 0 6 W.shList w3 hlit hg3 (by decide) (by decide) W.sh_rng W.sh_asc HW3.out.pow HW3.out.powlt).mono ?_
  rintro e w4 ⟨rfl, hb4⟩
  rw [W.sh_list]
  have hb14 := hb13.trans (hb4.mono hb13.size)
  have HW4 := Lib.hid (HW.out.below hb14)
  have hE4 := HW4.out.esc
  clear hlit
  go_wp2_with fail
  refine (Unquote_any _ w4 hE4 (by decide)).mono ?_
  rintro e w5 ⟨b, x, rfl, huq, hb5⟩
  obtain ⟨rfl, rfl⟩ := W.uq_unique huq W.sh_uq
  have hb15 := hb14.trans (hb5.mono hb14.size)
  have hb25 := (hb2.trans ((hb23.trans ((hb4.trans (hb5.mono hb4.size)).mono hb23.size)).mono hb2.size))
  have hF5 : Fields w5 w.heap.size v W.shFields := own_below HF.out hb25
  have HF5 := Lib.hid hF5
  have HF5' := Lib.hid hF5
  clear huq hF5
  go_wp2_with fail
  obtain ⟨w6, hw6⟩ : ∃ w6, w6 = w5.alloc (.cells #[.string ⟨#[103, 101, 116]⟩, .bool false, .string ⟨#[47]⟩, .bool false, .string ⟨#[97, 32, 98]⟩, .bool true] 45) := ⟨_, rfl⟩
  have hl6 : w6.ownsRow w5.heap.size 45 2 (.slice (some ⟨w5.heap.size, 0, none⟩) 3 3) W.shFields.length (fCells W.shFields) := by
    rw [hw6]
    exact World.ownsRow_lit w5 _ 3 (Nat.le_refl _) (by decide) rfl
  have hF6 : w6.ownsRow w.heap.size 45 2 v W.shFields.length (fCells W.shFields) := by
    rw [hw6]
    exact HF5.out.alloc _
  have hb56 : Below w5.heap.size w5 w6 := by rw [hw6]; exact (Below.refl _ w5).alloc (Nat.le_refl _) _
  have hb16 := hb15.trans (hb56.mono hb15.size)
  rw [← hw6]
  clear hw6
  refine (RSame_eq _ _ v _ W.shFields w6 hF6 hl6 (by decide) (by decide)).mono ?_
  rintro e w7 ⟨rfl, hb7⟩
  have hb17 := hb16.trans (hb7.mono hb16.size)
  have hnm : W.nameB ⟨#[119, 101, 98, 45, 49]⟩ = true := by kernel_rfl
  have HN := Lib.hid (Name_any ⟨#[119, 101, 98, 45, 49]⟩ w7 (by decide))
  clear hl6 hF6
  go_wp2_with fail
  refine HN.out.mono ?_
  rintro e w8 ⟨rfl, rfl⟩
  rw [hnm]
  go_wp2_with fail
  go_ret
  exact ⟨rfl, hb17⟩
end Go.Proofs.YtbjfpmklmhgbdaaDoor
