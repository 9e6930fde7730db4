/- The iterator of a line's fields is walked: at the head of each field, and from its beginning. -/
import Derived.Test.YtbjfpmklmhgbdaaDoorWordsIter3
namespace Go.Proofs.YtbjfpmklmhgbdaaDoor
open Go.RowKit Go.Shelf
attribute [local go_sem] Oper.semAt_some
theorem then_goto {K : Act → World → Prop} {Q : Exit → Act → World → Prop} {a : Act} {w : World} {l : Nat} (h : Q (.goto l) a w) : Exit.then K Q (.goto l) a w := h
theorem W.prefix_head (l : List UInt8) : Lib.hasPrefix l [34] = decide (l.headD 0 = 34) := by
  match l with
  | [] => rfl
  | c :: r =>
    rw [Bool.eq_iff_iff, decide_eq_true_iff]
    simp [Lib.hasPrefix]
    exact eq_comm

set_option maxRecDepth 100000 in
set_option maxHeartbeats 4000000 in
theorem iter_one (n l b c0 : Nat) (hn : 1 ≤ n) (line : ByteArray) (hs : line.size ≤ 8192) (h0 : 0 < b) (J Jx : List (FV × Bool) → World → Prop)
    (hJ : ∀ pre W1 W2, J pre W1 → W1.grownBy W2 (some b) → J pre W2)
    (M : Nat) (a : Act) (Wd : World) (hL : Lab l b c0 line J 1 a Wd) (hM : jumpLen 1 a Wd ≤ M) :
    ∃ rest, findLabel iterBody 1 = some (.seq .skip rest) ∧ rest.wpIn Fence.wide n Tryd.prog (Jumps (fun l' a' w' => Lab l b c0 line J l' a' w' ∧ jumpLen l' a' w' < M) (bodyPost Tryd.prog Tryd.f66 fun e W' => (∃ v, e = .returned v) ∧ ((∃ xs, W.Whole line.data.toList xs ∧ J xs W') ∨ (∃ pre, W.Begun line.data.toList pre ∧ Jx pre W')))) a Wd := by
  refine ⟨_, rfl, ?_⟩
  obtain ⟨r, fs0, sz, u2, u6, u7, u8, u9, u10, u11, u12, u13, u14, u15, u16, u17, u18, u19, u20, u21, u22, u23, u24, u25, u26, u27, u28, u29, u30, u31, u32, u33, u34, u35, u36, u37, u38, u39, u40, u41, u42, u43, u44, u45, u46, u47, u48, u49, u50, u51, u52, u53, u54, u55, rfl, hrest, hrs, hj, hb, ⟨x, y, hx1, hy1, hblk⟩, hE, (_ | ⟨h, _⟩ | ⟨h, _⟩)⟩ := hL
  · have hM' : 3 * r.size + 2 ≤ M := hM
    have hrs' : r.size ≤ maxLen := by unfold maxLen; omega
    have hpf := W.prefix_head r.data.toList
    by_cases h34 : r.data.toList.headD 0 = 34
    · rw [decide_eq_true h34] at hpf
      have H34 := Lib.hid h34
      have Hx := Lib.hid hx1
      have Hy := Lib.hid hy1
      have Hblk := Lib.hid hblk
      have Hrest := Lib.hid hrest
      have Hj := Lib.hid hj
      have HE := Lib.hid hE
      clear hM hblk hrest hj hE h34 hx1 hy1 hJ hs
      gi_wp2_with (first | (refine ⟨trivial, ?_⟩; gi_at_call 60; refine (callsIn_wide.2 (HasPrefix_any _ _ _)).mono ?_; rintro e w' ⟨rfl, rfl⟩))
      refine wpIn_goto (then_goto (jumps_goto ⟨?_, ?_⟩))
      · exact ⟨r, fs0, _, _, _, _, _, _, _, _, _, _, _, _, _, _, _, _, _, _, _, _, _, _, _, _, _, _, _, _, _, _, _, _, _, _, _, _, _, _, _, _, _, _, _, _, _, _, _, _, _, _, _, _, rfl, Hrest.out, hrs, Hj.out, hb, ⟨_, _, Hx.out, Hy.out, Hblk.out⟩, HE.out, Or.inr (Or.inl ⟨rfl, H34.out⟩)⟩
      · show 3 * r.size + 1 < M
        omega
    · rw [decide_eq_false h34] at hpf
      have hcx : Wd.cell? ⟨b, 0, none⟩ = some x := by simp [World.cell?, hblk]
      have hcy : Wd.cell? ⟨b, 1, none⟩ = some y := by simp [World.cell?, hblk]
      have hfx : Wd.frozen? ⟨b, 0, none⟩ = false := by simp [World.frozen?, hblk]
      have hfy : Wd.frozen? ⟨b, 1, none⟩ = false := by simp [World.frozen?, hblk]
      have hbn := W.bareN_le r.data.toList
      have hl : r.data.toList.length = r.size := rfl
      rw [hl] at hbn
      obtain ⟨k, hk⟩ : ∃ k, W.bareN r.data.toList = k := ⟨_, rfl⟩
      have hbare : ∀ w, Calls Tryd.prog 45 #[.string r] w fun e w' => e = .returned (.int .i64 (k : Nat)) ∧ w = w' := fun w => by
        have := bareSize_any r w hrs'
        rwa [hk] at this
      have hfr : W.FRead r.data.toList (r.extract 0 k).data.toList false k := Or.inr ⟨rfl, h34, hk.symm, by rw [Lib.extract_data]; simp⟩
      rw [hk] at hbn
      have hsz : (r.extract 0 k).size ≤ 281474976710656 := by simp [ByteArray.size_extract]; omega
      have Hfr := Lib.hid hfr
      have Hbare := Lib.hid hbare
      have Hsz := Lib.hid hsz
      have Hblk := Lib.hid hblk
      have Hrest := Lib.hid hrest
      have Hj := Lib.hid hj
      have HE := Lib.hid hE
      have HJ := Lib.hid hJ
      clear hM hblk hrest hj hE h34 hx1 hy1 hJ hs hk hbare hfr hsz hl
      gi_wp2_with (first | (refine ⟨trivial, ?_⟩; gi_at_call 60; refine (callsIn_wide.2 (HasPrefix_any _ _ _)).mono ?_; rintro e w' ⟨rfl, rfl⟩) | (refine ⟨trivial, ?_⟩; gi_at_call 45; refine (callsIn_wide.2 (Hbare.out _)).mono ?_; rintro e w' ⟨rfl, rfl⟩))
      refine ⟨trivial, ?_⟩
      refine (callsIn_wide.2 (Clone_any (r.extract 0 k) Wd Hsz.out)).mono ?_
      rintro e W2 ⟨rfl, hbel⟩
      have hB2 := (hbel.block b hb).trans Hblk.out
      have hcx2 : W2.cell? ⟨b, 0, none⟩ = some x := by simp [World.cell?, hB2]
      have hcy2 : W2.cell? ⟨b, 1, none⟩ = some y := by simp [World.cell?, hB2]
      have hfx2 : W2.frozen? ⟨b, 0, none⟩ = false := by simp [World.frozen?, hB2]
      have hfy2 : W2.frozen? ⟨b, 1, none⟩ = false := by simp [World.frozen?, hB2]
      obtain ⟨V, hV⟩ : ∃ V, (W2.setCell ⟨b, 0, none⟩ (.string (r.extract 0 k))).setCell ⟨b, 1, none⟩ (.bool false) = V := ⟨_, rfl⟩
      have hB3 : V.heap[b]? = some (.cells #[.string (r.extract 0 k), .bool false] 45 (0, 0)) := by rw [← hV]; exact setCell_block _ (setCell_block _ hB2)
      have hG : Wd.grownBy V (some b) := by rw [← hV]; exact ((grown_below hbel).trans (grown_setCell _ _ _ _)).trans (grown_setCell _ _ _ _)
      have hj2 := HJ.out _ _ _ Hj.out hG
      have hb2 : b < V.heap.size := Nat.lt_of_lt_of_le hb hG.size
      have hE2 : EscIn V := by
        obtain ⟨t, fr, h⟩ := HE.out
        exact ⟨t, fr, (hG.block _ (Array.getElem?_eq_some_iff.1 h).1 (fun e => by have := Option.some.inj e; omega)).trans h⟩
      have HV := Lib.hid hV
      have HB3 := Lib.hid hB3
      have Hj2 := Lib.hid hj2
      have HE2 := Lib.hid hE2
      clear hV hB3 hG hj2 hE2 hB2 hcx hcy hfx hfy
      gi_wp2_with fail
      refine wpIn_goto (then_goto (jumps_goto ⟨?_, ?_⟩))
      · rw [HV.out]
        exact ⟨r, fs0, _, _, _, _, _, _, _, _, _, _, _, _, _, _, _, _, _, _, _, _, _, _, _, _, _, _, _, _, _, _, _, _, _, _, _, _, _, _, _, _, _, _, _, _, _, _, _, _, _, _, _, _, rfl, Hrest.out, hrs, Hj2.out, hb2, ⟨_, _, rfl, rfl, HB3.out⟩, HE2.out, Or.inr (Or.inr ⟨rfl, _, _, _, rfl, Hfr.out, HB3.out⟩)⟩
      · show 3 * r.size + 0 < M
        omega
  · omega
  · omega
end Go.Proofs.YtbjfpmklmhgbdaaDoor
