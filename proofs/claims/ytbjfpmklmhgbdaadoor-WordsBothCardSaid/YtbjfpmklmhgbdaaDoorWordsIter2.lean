/- The iterator of a line's fields is walked. -/
import Derived.Test.YtbjfpmklmhgbdaaDoorWordsIter
namespace Go.Proofs.YtbjfpmklmhgbdaaDoor
open Go.RowKit Go.Shelf
attribute [local go_sem] Oper.semAt_some
theorem jumps_ret {J : Nat → Act → World → Prop} {Q : Exit → Act → World → Prop} {a : Act} {w : World} (h : Q .ret a w) : Jumps J Q .ret a w := h
theorem jumps_goto {J : Nat → Act → World → Prop} {Q : Exit → Act → World → Prop} {a : Act} {w : World} {l : Nat} (h : J l a w) : Jumps J Q (.goto l) a w := h
/-- The code behind the head of the iterator. -/
noncomputable def iterBody : Code := match Tryd.f66.body with
  | some (.scope c) => c
  | _ => .skip
/-- What is left of a string in the frame, and a number that goes down at each jump. -/
def restLen (a : Act) : Nat := match a.tmps.getD 5 undef with
  | .string s => s.size
  | _ => 0
def jumpLen (lbl : Nat) (a : Act) (_ : World) : Nat := 3 * restLen a + if lbl = 1 then 2 else if lbl = 0 then 1 else 0

namespace W
theorem byte_eq {r : ByteArray} {k : Nat} (h : k < r.size) (e : r.data.toList.getD k 0 = 32) : (((r[k]'h).toNat : Int) != 32) = false := by
  rw [get_list]
  rw [List.getD_eq_getElem?_getD, List.getElem?_eq_getElem h] at e
  rw [show r.data.toList[k]'h = 32 from e]
  rfl
theorem byte_ne {r : ByteArray} {k : Nat} (h : k < r.size) (e : r.data.toList.getD k 0 ≠ 32) : (((r[k]'h).toNat : Int) != 32) = true := by
  rw [get_list, bne_iff_ne]
  intro e2
  apply e
  rw [List.getD_eq_getElem?_getD, List.getElem?_eq_getElem h]
  exact UInt8.toNat_inj.1 (by exact_mod_cast e2)
end W
set_option maxRecDepth 100000 in
set_option maxHeartbeats 4000000 in
theorem iter_two (n l b c0 : Nat) (hn : 1 ≤ n) (line : ByteArray) (hs : line.size ≤ 8192) (J Jx : List (FV × Bool) → World → Prop)
    (hY : ∀ pre x W1, J pre W1 → pre.length ≤ 8192 → b < W1.heap.size → YieldAt Fence.wide (n - 1) Tryd.prog l (encF x) W1 fun e W' =>
      (e = .returned (.bool true) ∧ J (pre ++ [x]) W' ∧ W1.heap.size ≤ W'.heap.size ∧ ∀ k, k = b ∨ k = c0 ∨ k = 0 → W'.heap[k]? = W1.heap[k]?) ∨ (e = .returned (.bool false) ∧ Jx (pre ++ [x]) W'))
    (M : Nat) (a : Act) (Wd : World) (hL : Lab l b c0 line J 2 a Wd) (hM : jumpLen 2 a Wd ≤ M) :
    ∃ rest, findLabel iterBody 2 = some (.seq .skip rest) ∧ rest.wpIn Fence.wide n Tryd.prog (Jumps (fun l' a' w' => Lab l b c0 line J l' a' w' ∧ jumpLen l' a' w' < M) (bodyPost Tryd.prog Tryd.f66 fun e W' => (∃ v, e = .returned v) ∧ ((∃ xs, W.Whole line.data.toList xs ∧ J xs W') ∨ (∃ pre, W.Begun line.data.toList pre ∧ Jx pre W')))) a Wd := by
  refine ⟨_, rfl, ?_⟩
  obtain ⟨r, fs0, sz, u2, u6, u7, u8, u9, u10, u11, u12, u13, u14, u15, u16, u17, u18, u19, u20, u21, u22, u23, u24, u25, u26, u27, u28, u29, u30, u31, u32, u33, u34, u35, u36, u37, u38, u39, u40, u41, u42, u43, u44, u45, u46, u47, u48, u49, u50, u51, u52, u53, u54, u55, rfl, hrest, hrs, hj, hb, _, hE, (h | ⟨h, _⟩ | ⟨_, s, q, k, rfl, hf, hblk⟩)⟩ := hL
  · omega
  · omega
  have hM' : 3 * r.size ≤ M := hM
  clear hM
  have hle := W.fread_le hf
  have hpl : (W.goods fs0).length ≤ 8192 := by simp [W.goods]; omega
  have hl : r.data.toList.length = r.size := rfl
  rw [hl] at hle
  by_cases hbad : W.badAt r.data.toList k
  · have hline := W.rest_bad hrest hf hbad
    obtain ⟨fn, tmps, assign, body, hy, hR⟩ := hY _ (([], false), false) Wd hj hpl hb
    have hw : W.Whole line.data.toList (W.goods fs0 ++ [(([], false), false)]) := ⟨fs0, false, hline, by simp [W.yields]⟩
    have hbg : W.Begun line.data.toList (W.goods fs0 ++ [(([], false), false)]) := ⟨fs0, false, [], hline, by simp [W.yields]⟩
    dsimp only [encF] at hy
    have Hw := Lib.hid hw
    have Hbg := Lib.hid hbg
    clear hw hbg hline hY hrest hf hj hE hblk
    have Hr := Lib.hid hR
    clear hR
    have tail : True := trivial
    by_cases hk0 : k = 0
    · have hk1 : ((k : Int) == 0) = true := by simp [hk0]
      clear hk0 hbad
      gi_wp2
      refine Hr.out.mono ?_
      rintro e W3 (⟨rfl, hJ3, hsz3, hk3⟩ | ⟨rfl, hJx3⟩)
      · gi_wp2
        refine jumps_ret (bodyPost_ret (results_none rfl _ _ _) rfl ?_)
        exact ⟨⟨_, rfl⟩, .inl ⟨_, Hw.out, hJ3⟩⟩
      · gi_wp2
        refine jumps_ret (bodyPost_ret (results_none rfl _ _ _) rfl ?_)
        exact ⟨⟨_, rfl⟩, .inr ⟨_, Hbg.out, hJx3⟩⟩
    · have hk1 : ((k : Int) == 0) = false := by rw [beq_eq_false_iff_ne]; omega
      rcases hbad with h | ⟨hlt, hne⟩
      · exact absurd h hk0
      rw [hl] at hlt
      have h32 : (((r[k]'hlt).toNat : Int) != 32) = true := W.byte_ne hlt hne
      clear hk0 hne
      gi_wp2
      refine Hr.out.mono ?_
      rintro e W3 (⟨rfl, hJ3, hsz3, hk3⟩ | ⟨rfl, hJx3⟩)
      · gi_wp2
        refine jumps_ret (bodyPost_ret (results_none rfl _ _ _) rfl ?_)
        exact ⟨⟨_, rfl⟩, .inl ⟨_, Hw.out, hJ3⟩⟩
      · gi_wp2
        refine jumps_ret (bodyPost_ret (results_none rfl _ _ _) rfl ?_)
        exact ⟨⟨_, rfl⟩, .inr ⟨_, Hbg.out, hJx3⟩⟩
  · have hk0 : k ≠ 0 := fun e => hbad (Or.inl e)
    have hk1 : ((k : Int) == 0) = false := by rw [beq_eq_false_iff_ne]; omega
    obtain ⟨fn, tmps, assign, body, hy, hR⟩ := hY _ ((s, q), true) Wd hj hpl hb
    have hbg := W.begun_of hrest hf hbad
    dsimp only [encF] at hy
    have hx0 : Wd.cell? ⟨b, 0, none⟩ = some (.string ⟨s.toArray⟩) := by simp [World.cell?, hblk]
    have hx1 : Wd.cell? ⟨b, 1, none⟩ = some (.bool q) := by simp [World.cell?, hblk]
    have Hr := Lib.hid hR
    have Hbg := Lib.hid hbg
    have Hb := Lib.hid hblk
    clear hR hbg hblk hY hj
    by_cases hlt : k < r.size
    · have hne : r.data.toList.getD k 0 = 32 := Classical.byContradiction fun e => hbad (Or.inr ⟨hlt, e⟩)
      have h32 : (((r[k]'hlt).toNat : Int) != 32) = false := W.byte_eq hlt hne
      have hnx := W.rest_next hrest hf hbad (by rw [hl]; exact hlt)
      have hks : ((k : Int) == (r.size : Int)) = false := by rw [beq_eq_false_iff_ne]; omega
      have Hnx := Lib.hid hnx
      have HE := Lib.hid hE
      clear hnx hE hrest hf hbad hne hk0
      gi_wp2
      refine Hr.out.mono ?_
      rintro e W3 (⟨rfl, hJ3, hsz3, hk3⟩ | ⟨rfl, hJx3⟩)
      · have hb3 : b < W3.heap.size := Nat.lt_of_lt_of_le hb hsz3
        have hE3 : EscIn W3 := by
          obtain ⟨t, fr, h⟩ := HE.out
          exact ⟨t, fr, (hk3 _ (Or.inr (Or.inr rfl))).trans h⟩
        have ho3 : OwnB b W3 := ⟨_, _, rfl, rfl, (hk3 b (Or.inl rfl)).trans Hb.out⟩
        have hj3 : J (W.goods (fs0 ++ [(s, q)])) W3 := by simpa [W.goods] using hJ3
        have hrs3 : (fs0 ++ [(s, q)]).length + (r.extract (k + 1) r.size).size ≤ line.size := by simp [ByteArray.size_extract]; omega
        have hlt3 : 3 * (r.extract (k + 1) r.size).size + 2 < M := by simp [ByteArray.size_extract]; omega
        have Hj3 := Lib.hid hj3
        clear hk3 hJ3 hj3
        gi_wp2
        refine wpIn_goto (jumps_goto ⟨?_, hlt3⟩)
        exact ⟨r.extract (k + 1) r.size, fs0 ++ [(s, q)], _, _, _, _, _, _, _, _, _, _, _, _, _, _, _, _, _, _, _, _, _, _, _, _, _, _, _, _, _, _, _, _, _, _, _, _, _, _, _, _, _, _, _, _, _, _, _, _, _, _, _, _, rfl, by rw [W.ext_list]; exact Hnx.out, hrs3, Hj3.out, hb3, ho3, hE3, Or.inl rfl⟩
      · gi_wp2
        refine jumps_ret (bodyPost_ret (results_none rfl _ _ _) rfl ?_)
        exact ⟨⟨_, rfl⟩, .inr ⟨_, Hbg.out, hJx3⟩⟩
    · have hks : k = r.size := by omega
      have hks' : ((k : Int) == (r.size : Int)) = true := by rw [beq_iff_eq]; omega
      have hw : W.Whole line.data.toList (W.goods fs0 ++ [((s, q), true)]) := ⟨_, true, W.rest_end hrest hf hbad (by rw [hl]; exact hks), by simp [W.yields, W.goods]⟩
      have Hw := Lib.hid hw
      clear hw hks hrest hf hbad hk0
      gi_wp2
      refine Hr.out.mono ?_
      rintro e W3 (⟨rfl, hJ3, hsz3, hk3⟩ | ⟨rfl, hJx3⟩)
      · gi_wp2
        refine jumps_ret (bodyPost_ret (results_none rfl _ _ _) rfl ?_)
        exact ⟨⟨_, rfl⟩, .inl ⟨_, Hw.out, hJ3⟩⟩
      · gi_wp2
        refine jumps_ret (bodyPost_ret (results_none rfl _ _ _) rfl ?_)
        exact ⟨⟨_, rfl⟩, .inr ⟨_, Hbg.out, hJx3⟩⟩
end Go.Proofs.YtbjfpmklmhgbdaaDoor
