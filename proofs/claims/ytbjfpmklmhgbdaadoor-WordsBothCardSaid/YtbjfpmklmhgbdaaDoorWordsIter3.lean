/- The iterator of a line's fields is walked: where a field is read. -/
import Derived.Test.YtbjfpmklmhgbdaaDoorWordsIter2
namespace Go.Proofs.YtbjfpmklmhgbdaaDoor
open Go.RowKit Go.Shelf
attribute [local go_sem] Oper.semAt_some
/-- A cell of a block is stored. -/
theorem setCell_block {Wd : World} {b i : Nat} {cs : Array Value} {t : TypeId} {fr : Nat × Nat} (v : Value) (h : Wd.heap[b]? = some (.cells cs t fr)) : (Wd.setCell ⟨b, i, none⟩ v).heap[b]? = some (.cells (cs.setIfInBounds i v) t fr) := by
  simp [World.setCell, Array.getElem?_modify, h]
theorem grown_setCell (Wd : World) (b i : Nat) (v : Value) : Wd.grownBy (Wd.setCell ⟨b, i, none⟩ v) (some b) := by
  refine ⟨rfl, rfl, rfl, by simp, fun k _ hk => ?_⟩
  exact Below.heap_setCell Wd ⟨b, i, none⟩ v k (fun e => hk (by rw [e]))
theorem World.grownBy.trans {A B C : World} {row : Option Nat} (h : A.grownBy B row) (k : B.grownBy C row) : A.grownBy C row :=
  ⟨k.os.trans h.os, k.tape.trans h.tape, k.output.trans h.output, Nat.le_trans h.size k.size, fun i hi hr => (k.block i (Nat.lt_of_lt_of_le hi h.size) hr).trans (h.block i hi hr)⟩
theorem grown_below {W1 W2 : World} {row : Option Nat} (h : Below W1.heap.size W1 W2) : W1.grownBy W2 row :=
  ⟨h.os, h.tape, h.output, h.size, fun k hk _ => h.block k hk⟩

set_option maxRecDepth 100000 in
set_option maxHeartbeats 4000000 in
theorem iter_zero (n l b c0 : Nat) (hn : 1 ≤ n) (line : ByteArray) (hs : line.size ≤ 8192) (h0 : 0 < b) (J Jx : List (FV × Bool) → World → Prop)
    (hJ : ∀ pre W1 W2, J pre W1 → W1.grownBy W2 (some b) → J pre W2)
    (hY : ∀ pre x W1, J pre W1 → pre.length ≤ 8192 → b < W1.heap.size → YieldAt Fence.wide (n - 1) Tryd.prog l (encF x) W1 fun e W' =>
      (e = .returned (.bool true) ∧ J (pre ++ [x]) W' ∧ W1.heap.size ≤ W'.heap.size ∧ ∀ k, k = b ∨ k = c0 ∨ k = 0 → W'.heap[k]? = W1.heap[k]?) ∨ (e = .returned (.bool false) ∧ Jx (pre ++ [x]) W'))
    (M : Nat) (a : Act) (Wd : World) (hL : Lab l b c0 line J 0 a Wd) (hM : jumpLen 0 a Wd ≤ M) :
    ∃ rest, findLabel iterBody 0 = some (.seq .skip rest) ∧ rest.wpIn Fence.wide n Tryd.prog (Jumps (fun l' a' w' => Lab l b c0 line J l' a' w' ∧ jumpLen l' a' w' < M) (bodyPost Tryd.prog Tryd.f66 fun e W' => (∃ v, e = .returned v) ∧ ((∃ xs, W.Whole line.data.toList xs ∧ J xs W') ∨ (∃ pre, W.Begun line.data.toList pre ∧ Jx pre W')))) a Wd := by
  refine ⟨_, rfl, ?_⟩
  obtain ⟨r, fs0, sz, u2, u6, u7, u8, u9, u10, u11, u12, u13, u14, u15, u16, u17, u18, u19, u20, u21, u22, u23, u24, u25, u26, u27, u28, u29, u30, u31, u32, u33, u34, u35, u36, u37, u38, u39, u40, u41, u42, u43, u44, u45, u46, u47, u48, u49, u50, u51, u52, u53, u54, u55, rfl, hrest, hrs, hj, hb, ⟨x, y, hx1, hy1, hblk⟩, hE, (h | ⟨_, h34⟩ | ⟨h, _⟩)⟩ := hL
  · omega
  · have hM' : 3 * r.size + 1 ≤ M := hM
    have hrs' : r.size ≤ 140737488351232 := by omega
    have hcx : Wd.cell? ⟨b, 0, none⟩ = some x := by simp [World.cell?, hblk]
    have hcy : Wd.cell? ⟨b, 1, none⟩ = some y := by simp [World.cell?, hblk]
    have hfx : Wd.frozen? ⟨b, 0, none⟩ = false := by simp [World.frozen?, hblk]
    have hfy : Wd.frozen? ⟨b, 1, none⟩ = false := by simp [World.frozen?, hblk]
    have Hblk := Lib.hid hblk
    have Hrest := Lib.hid hrest
    have Hj := Lib.hid hj
    have HE := Lib.hid hE
    have H34 := Lib.hid h34
    have HY := Lib.hid hY
    clear hM hblk hrest hj hE h34 hY hx1 hy1
    gi_wp2_with fail
    have hB2 : ((Wd.setCell ⟨b, 0, none⟩ (.string ⟨#[]⟩)).setCell ⟨b, 1, none⟩ (.bool true)).heap[b]? = some (.cells #[.string ⟨#[]⟩, .bool true] 45 (0, 0)) := setCell_block _ (setCell_block _ Hblk.out)
    have hG2 : Wd.grownBy ((Wd.setCell ⟨b, 0, none⟩ (.string ⟨#[]⟩)).setCell ⟨b, 1, none⟩ (.bool true)) (some b) := (grown_setCell _ _ _ _).trans (grown_setCell _ _ _ _)
    have hsz2 : ((Wd.setCell ⟨b, 0, none⟩ (.string ⟨#[]⟩)).setCell ⟨b, 1, none⟩ (.bool true)).heap.size = Wd.heap.size := by simp
    refine ⟨trivial, ?_⟩
    obtain ⟨V, hV⟩ : ∃ V, (Wd.setCell ⟨b, 0, none⟩ (.string ⟨#[]⟩)).setCell ⟨b, 1, none⟩ (.bool true) = V := ⟨_, rfl⟩
    rw [hV] at hB2 hG2 hsz2 ⊢
    clear hV
    have hEV : EscIn V := by
      obtain ⟨t, fr, h⟩ := HE.out
      exact ⟨t, fr, (hG2.block _ (Array.getElem?_eq_some_iff.1 h).1 (fun e => by have := Option.some.inj e; omega)).trans h⟩
    refine (callsIn_wide.2 (readQuoted_any r V hEV hrs')).mono ?_
    rintro e W2 ⟨s, k, rfl, hrd, hbel⟩
    have hbV : b < V.heap.size := by omega
    have hB3 := (hbel.block b hbV).trans hB2
    have hcx2 : W2.cell? ⟨b, 0, none⟩ = some (.string ⟨#[]⟩) := by simp [World.cell?, hB3]
    have hfx2 : W2.frozen? ⟨b, 0, none⟩ = false := by simp [World.frozen?, hB3]
    have hj2 : J (W.goods fs0) (W2.setCell ⟨b, 0, none⟩ (.string ⟨s.toArray⟩)) := hJ _ _ _ Hj.out ((hG2.trans (grown_below hbel)).trans (grown_setCell _ _ _ _))
    have hB4 : (W2.setCell ⟨b, 0, none⟩ (.string ⟨s.toArray⟩)).heap[b]? = some (.cells #[.string ⟨s.toArray⟩, .bool true] 45 (0, 0)) := setCell_block _ hB3
    have hE4 : EscIn (W2.setCell ⟨b, 0, none⟩ (.string ⟨s.toArray⟩)) := by
      obtain ⟨t, fr, h⟩ := hEV.below hbel
      exact ⟨t, fr, ((grown_setCell W2 b 0 _).block _ (Array.getElem?_eq_some_iff.1 h).1 (fun e => by have := Option.some.inj e; omega)).trans h⟩
    have hb4 : b < (W2.setCell ⟨b, 0, none⟩ (.string ⟨s.toArray⟩)).heap.size := by have := hbel.size; simp; omega
    have Hj2 := Lib.hid hj2
    have HB4 := Lib.hid hB4
    have HE4 := Lib.hid hE4
    have Hb4 := Lib.hid hb4
    have Hrd := Lib.hid hrd
    clear hj2 hB4 hE4 hb4 hrd hB3 hB2 hEV hG2 hJ
    gi_wp2_with fail
    refine wpIn_label ?_
    have hfr : W.FRead r.data.toList s true k := Or.inl ⟨rfl, H34.out, Hrd.out⟩
    have hlab : ∀ (a : Act), a.tmps.getD 5 undef = .string r → (∃ u2 u6 u7 u8 u9 u10 u11 u12 u13 u14 u15 u16 u17 u18 u19 u20 u21 u22 u23 u24 u25 u26 u27 u28 u29 u30 u31 u32 u33 u34 u35 u36 u37 u38 u39 u40 u41 u42 u43 u44 u45 u46 u47 u48 u49 u50 u51 u52 u53 u54 u55 : Value, a = { tmps := #[.func (.yield l) #[] #[], .pointer (some ⟨c0, 0, none⟩), u2, .pointer (some ⟨b, 0, none⟩), .int .i64 (k : Nat), .string r, u6, u7, u8, u9, u10, u11, u12, u13, u14, u15, u16, u17, u18, u19, u20, u21, u22, u23, u24, u25, u26, u27, u28, u29, u30, u31, u32, u33, u34, u35, u36, u37, u38, u39, u40, u41, u42, u43, u44, u45, u46, u47, u48, u49, u50, u51, u52, u53, u54, u55], defers := [] }) → ∃ rest, findLabel iterBody 2 = some (.seq .skip rest) ∧ rest.wpIn Fence.wide n Tryd.prog (Jumps (fun l' a' w' => Lab l b c0 line J l' a' w' ∧ jumpLen l' a' w' < M) (bodyPost Tryd.prog Tryd.f66 fun e W' => (∃ v, e = .returned v) ∧ ((∃ xs, W.Whole line.data.toList xs ∧ J xs W') ∨ (∃ pre, W.Begun line.data.toList pre ∧ Jx pre W')))) a (W2.setCell ⟨b, 0, none⟩ (.string ⟨s.toArray⟩)) := by
      rintro a ha ⟨u2, u6, u7, u8, u9, u10, u11, u12, u13, u14, u15, u16, u17, u18, u19, u20, u21, u22, u23, u24, u25, u26, u27, u28, u29, u30, u31, u32, u33, u34, u35, u36, u37, u38, u39, u40, u41, u42, u43, u44, u45, u46, u47, u48, u49, u50, u51, u52, u53, u54, u55, rfl⟩
      refine iter_two n l b c0 hn line hs J Jx HY.out M _ _ ⟨r, fs0, _, _, _, _, _, _, _, _, _, _, _, _, _, _, _, _, _, _, _, _, _, _, _, _, _, _, _, _, _, _, _, _, _, _, _, _, _, _, _, _, _, _, _, _, _, _, _, _, _, _, _, _, rfl, Hrest.out, hrs, Hj2.out, Hb4.out, ⟨_, _, rfl, rfl, HB4.out⟩, HE4.out, Or.inr (Or.inr ⟨rfl, s, true, k, rfl, hfr, HB4.out⟩)⟩ ?_
      show 3 * r.size + 0 ≤ M
      omega
    rename_i hK
    refine hK _ _ ?_
    obtain ⟨rest, hr, hw⟩ := hlab _ rfl ⟨_, _, _, _, _, _, _, _, _, _, _, _, _, _, _, _, _, _, _, _, _, _, _, _, _, _, _, _, _, _, _, _, _, _, _, _, _, _, _, _, _, _, _, _, _, _, _, _, _, _, _, rfl⟩
    obtain rfl : _ = rest := Code.seq.inj (Option.some.inj hr) |>.2
    exact hw
  · omega
end Go.Proofs.YtbjfpmklmhgbdaaDoor
