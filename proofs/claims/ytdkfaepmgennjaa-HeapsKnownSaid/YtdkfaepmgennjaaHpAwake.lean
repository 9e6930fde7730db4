/- The orders of the laws; a queue that the law itself has made; the examples of the document. -/
import Derived.Test.YtdkfaepmgennjaaHpMeth3
namespace Go.Proofs.Ytdkfaepmgennjaa
open Go.RowKit Go.Maps
open H (IT)
set_option linter.unusedSimpArgs false
set_option maxRecDepth 100000
def H.less (a b : Int) : Bool := decide (a < b)
def H.tens (a b : Int) : Bool := decide ((max b 0) % 10 < (max a 0) % 10)
theorem less_any : OrdN 31 H.less := ⟨.inl rfl, fun a b w => by
  have HB : Hid (H.less a b = decide (a < b)) := Lib.hid rfl
  go_enter Try.func31, Try.ntmps31
  go_wp2_with fail
  go_ret
  exact ⟨by rw [HB.out]; rfl, rfl⟩⟩
/-- A queue that was made behind the world w. -/
structure QB (w wr : World) (g gm n : Nat) (nx : Int) (v : Value) (N : Nat) (l : List IT) : Prop where
  at_ : QAt wr g gm n (self g) nx v N l
  hg : w.heap.size ≤ g
  hgm : w.heap.size ≤ gm
  hv : ∀ k, v.ownBlock = some k → w.heap.size ≤ k
  bel : Below w.heap.size w wr
theorem QB.step {w wr wr' : World} {g gm n N N' : Nat} {nx nx' : Int} {v v' : Value} {l l' : List IT} (h : QB w wr g gm n nx v N l) (hq : QAt wr' g gm n (self g) nx' v' N' l') (hk : Kept wr wr' g gm v) (hn : NewB wr v v') : QB w wr' g gm n nx' v' N' l' :=
  ⟨hq, h.hg, h.hgm, fun k hk' => by
    rcases hn with hn | hn
    · exact h.hv k (hn ▸ hk')
    · exact Nat.le_trans h.bel.size (hn k hk'), h.bel.trans (hk.below h.bel.size h.hg h.hgm h.hv)⟩
theorem QB.some_ {w wr : World} {g gm n N m : Nat} {nx : Int} {v : Value} {l : List IT} (h : QB w wr g gm n nx v N l) (hm : l.length = m + 1) : ∃ gl cap, v = .slice (some ⟨gl, 0, none⟩) (m + 1) cap := by
  rcases h.at_.own.some_ with ⟨_, h0⟩ | ⟨gl, cap, h0, -⟩
  · rw [h0] at hm; simp at hm
  · exact ⟨gl, cap, by rw [h0, hm]⟩
theorem QB.below {w wr wr' : World} {g gm n N : Nat} {nx : Int} {v : Value} {l : List IT} (h : QB w wr g gm n nx v N l) (hb : Below wr.heap.size wr wr') : QB w wr' g gm n nx v N l :=
  ⟨h.at_.below hb, h.hg, h.hgm, h.hv, bt h.bel h.bel.size hb⟩
/-- The pushes of the examples. -/
def H.three : Nat → List IT
  | 0 => []
  | 1 => [(1, 5)]
  | 2 => [(2, 3), (1, 5)]
  | _ => [(2, 3), (1, 5), (3, 3)]
def H.val : Nat → Int
  | 0 => 5
  | _ => 3
theorem H.three_next : ∀ k, k < 3 → H.hpush H.less (H.three k) ((k : Int) + 1, H.val k) = H.three (k + 1)
  | 0, _ => by decide
  | 1, _ => by decide
  | 2, _ => by decide
theorem H.three_len : ∀ k, k < 3 → (H.three k).length = k
  | 0, _ => rfl
  | 1, _ => rfl
  | 2, _ => rfl
theorem H.three_lt : ∀ k, k < 3 → ∀ y ∈ H.three k, y.1 < (k : Int) + 1
  | 0, _ => by decide
  | 1, _ => by decide
  | 2, _ => by decide
theorem three_cell {w : World} {a : Nat} {t : TypeId} (h : w.heap[a]? = some (.cells #[.int .i64 5, .int .i64 3, .int .i64 3] t (0, 0))) : ∀ k, k < 3 → w.cell? ⟨a, k, none⟩ = some (.int .i64 (H.val k))
  | 0, _ => by rw [cell_of_row _ _ _ _ _ _ h]; rfl
  | 1, _ => by rw [cell_of_row _ _ _ _ _ _ h]; rfl
  | 2, _ => by rw [cell_of_row _ _ _ _ _ _ h]; rfl
set_option maxHeartbeats 1000000 in
theorem three_any (w : World) : Calls Try.prog 35 #[] w fun e w' => ∃ g gm v N, e = .returned (.pointer (some ⟨g, 0, none⟩)) ∧ QB w w' g gm 31 4 v N (H.three 3) ∧ N ≤ 100 := by
  have HN := Lib.hid (New_any _ less_any.1 w)
  have HP := Lib.hid (fun g gm N v nx l va w hq hlt h1 h15 hl hN => QPush_any _ H.less less_any g gm N v nx l va w hq hlt h1 h15 hl hN)
  go_enter Try.func35, Try.ntmps35
  go_wp2_with fail
  refine HN.out.mono ?_
  rintro e w1 ⟨g, gm, rfl, hq, hb, hg, hgm⟩
  have HQ : Hid (QB w w1 g gm 31 1 (.slice none 0 0) 0 (H.three 0)) := Lib.hid ⟨hq, hg, hgm, fun k hk => by simp [Value.ownBlock] at hk, hb⟩
  clear HN hq hb hg hgm
  go_wp2_with fail
  have hgl : g < w1.heap.size := (Array.getElem?_eq_some_iff.1 HQ.out.at_.row).1
  have hml : gm < w1.heap.size := by obtain ⟨D, hD, -⟩ := HQ.out.at_.map; exact hD.lt
  have hr := heap_alloc_new w1 (.cells #[.int .i64 5, .int .i64 3, .int .i64 3] 110)
  have HQ2 := Lib.hid (HQ.out.below (below_new w1 (.cells #[.int .i64 5, .int .i64 3, .int .i64 3] 110)))
  generalize (w1.alloc (.cells #[.int .i64 5, .int .i64 3, .int .i64 3] 110)) = w2 at hr HQ2 ⊢
  obtain ⟨ga, hga⟩ : ∃ ga, w1.heap.size = ga := ⟨_, rfl⟩
  rw [hga] at hr hgl hml ⊢
  have HR := Lib.hid hr
  clear HQ hr hga
  go_loopw [3] (fun i wr => ∃ (k : Nat) (v : Value) (N : Nat), k ≤ 3 ∧ i = .int .i64 k ∧ N ≤ 30 * k ∧ Hid (QB w wr g gm 31 ((k : Int) + 1) v N (H.three k)) ∧ Hid (wr.heap[ga]? = some (.cells #[.int .i64 5, .int .i64 3, .int .i64 3] 110 (0, 0))) ∧ Hid (v.ownBlock ≠ some ga)) (fun i _ => 3 - (intOf i).toNat)
  case atStart => exact ⟨0, _, 0, by omega, rfl, by omega, HQ2, HR, Lib.hid (by simp [Value.ownBlock])⟩
  case round =>
    obtain ⟨k, v, N, hk, rfl, hN, hQ, hR, hV⟩ := hrel
    by_cases hlt : k < 3
    · have c0 := three_cell hR.out k hlt
      have HPk := Lib.hid (HP.out g gm N v ((k : Int) + 1) (H.three k) (H.val k) wr hQ.out.at_ (H.three_lt k hlt) (by omega) (by omega) (by rw [H.three_len k hlt]; omega) (by rw [H.three_len k hlt]; omega))
      have HNx : Hid (H.hpush H.less (H.three k) ((k : Int) + 1, H.val k) = H.three (k + 1)) := Lib.hid (H.three_next k hlt)
      have HLk := Lib.hid (H.three_len k hlt)
      rw [HNx.out] at HPk
      generalize H.val k = va at c0 HPk
      go_wp2_with fail
      refine HPk.out.mono ?_
      rintro e w3 ⟨rfl, v', N', hN', hq3, hk3, hv3⟩
      have HQ3 := Lib.hid (hQ.out.step hq3 hk3 hv3)
      have HR3 := Lib.hid ((hk3.block ga (Array.getElem?_eq_some_iff.1 hR.out).1 (by omega) (by omega) hV.out).trans hR.out)
      have HV3 : Hid (v'.ownBlock ≠ some ga) := Lib.hid (fun e => by
        rcases hv3 with h | h
        · exact hV.out (h ▸ e)
        · have h1 := h ga e
          have h2 := (Array.getElem?_eq_some_iff.1 hR.out).1
          omega)
      rw [HLk.out] at hN'
      clear HPk hQ hR hV hq3 hk3 hv3
      go_wp2_with fail
      go_roundw
      case rel => exact ⟨k + 1, v', N', by omega, by go_num, by omega, HQ3, HR3, HV3⟩
      case measure => simp [intOf]; omega
    · obtain rfl : k = 3 := by omega
      have HF := Lib.hid hQ.out
      clear hQ
      go_wp2_with fail
      go_ret
      exact ⟨g, gm, v, N, rfl, HF.out, by omega⟩
def H.l2 : List IT := [(1, 3), (2, 3), (3, 3)]
def H.l3 : List IT := [(1, 3), (3, 3)]
def H.l4 : List IT := [(3, 3)]
set_option maxHeartbeats 2000000 in
theorem awake_any (w : World) : Calls Try.prog 10 #[] w fun e w' => e = .returned (.bool true) ∧ Below w.heap.size w w' := by
  have HT := Lib.hid (three_any w)
  go_enter Try.func10, Try.ntmps10
  go_wp2_with fail
  refine HT.out.mono ?_
  rintro e w1 ⟨g, gm, v, N, rfl, hq, hN⟩
  obtain ⟨gl, cap, rfl⟩ := hq.some_ (m := 2) rfl
  have HP := Lib.hid (show Calls Try.prog 22 #[.pointer (some ⟨g, 0, none⟩)] w1 fun e w' => e = .returned (.tuple #[.int .i64 2, .int .i64 3, .int .i64 0]) ∧ Below w1.heap.size w1 w' from Peek_any _ g gm gl cap 2 N 4 (H.three 3) w1 hq.at_ rfl)
  have HQ := Lib.hid hq
  clear HT hq
  go_wp2_with fail
  refine HP.out.mono ?_
  rintro e w2 ⟨rfl, hb⟩
  have hq2 := HQ.out.below hb
  have HS := Lib.hid (QSet_any _ H.less less_any g gm gl cap 3 N 4 (H.three 3) 1 1 3 w2 hq2.at_ rfl (by decide) rfl (by omega) (by omega))
  have HQ2 := Lib.hid hq2
  clear HP HQ hb hq2
  go_wp2_with fail
  refine HS.out.mono ?_
  rintro e w3 ⟨rfl, N3, hN3, hq3, hk3⟩
  have hQ3 : QB w w3 g gm _ 4 _ N3 H.l2 := HQ2.out.step (by rw [show H.l2 = H.mend H.less ((H.three 3).set 1 (1, 3)) 1 3 from by decide]; exact hq3) hk3 (.inl rfl)
  have HR := Lib.hid (show Calls Try.prog 24 #[.pointer (some ⟨g, 0, none⟩), .int .i64 2] w3 _ from QRemove_any _ H.less less_any g gm gl cap 2 N3 4 H.l2 1 2 w3 hQ3.at_ rfl (by decide) rfl (by omega) (by omega))
  rw [show (H.at_ (H.pre H.less H.l2 1) 2).2 = 3 from by decide, show H.hrem H.less H.l2 1 = H.l3 from by decide] at HR
  have HQ3 := Lib.hid hQ3
  clear HS HQ2 hq3 hk3 hQ3
  go_wp2_with fail
  refine HR.out.mono ?_
  rintro e w4 ⟨rfl, N4, hN4, hq4, hk4⟩
  have hQ4 : QB w w4 g gm _ 4 _ N4 H.l3 := HQ3.out.step hq4 hk4 (.inl rfl)
  have HO := Lib.hid (show Calls Try.prog 21 #[.pointer (some ⟨g, 0, none⟩)] w4 _ from QPop_any _ H.less less_any g gm gl cap 1 N4 4 H.l3 w4 hQ4.at_ rfl (by omega) (by omega))
  rw [show (H.at_ H.l3 0).1 = 1 from by decide, show (H.at_ (H.pre H.less H.l3 0) 1).2 = 3 from by decide, show H.hrem H.less H.l3 0 = H.l4 from by decide] at HO
  have HQ4 := Lib.hid hQ4
  clear HR HQ3 hq4 hk4 hQ4
  go_wp2_with fail
  refine HO.out.mono ?_
  rintro e w5 ⟨rfl, N5, hN5, hq5, hk5⟩
  have hQ5 : QB w w5 g gm _ 4 _ N5 H.l4 := HQ4.out.step hq5 hk5 (.inl rfl)
  have HL := Lib.hid (QLen_any _ g gm N5 1 cap _ 4 H.l4 w5 hQ5.at_)
  have HB := Lib.hid hQ5.bel
  clear HO HQ4 hq5 hk5 hQ5
  go_wp2_with fail
  refine HL.out.mono ?_
  rintro e w' ⟨rfl, rfl⟩
  go_wp2_with fail
  go_ret
  exact ⟨rfl, HB.out⟩
end Go.Proofs.Ytdkfaepmgennjaa
