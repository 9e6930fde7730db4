/- The iterator of a line's fields: its contract. -/
import Derived.Test.YtbjfpmklmhgbdaaDoorWordsIter4
namespace Go.Proofs.YtbjfpmklmhgbdaaDoor
open Go.RowKit Go.Shelf
attribute [local go_sem] Oper.semAt_some

set_option maxRecDepth 100000 in
set_option maxHeartbeats 4000000 in
theorem fields_iter (n : Nat) (hn : 1 ≤ n) (line : ByteArray) (hs : line.size ≤ 8192) (c0 b : Nat) (w : World) (hc0 : c0 < b) (h0 : 0 < b) (hE : EscIn w) (hc : w.cell? ⟨c0, 0, none⟩ = some (.string line)) :
    IterC Fence.wide n Tryd.prog 66 #[.pointer (some ⟨c0, 0, none⟩)] encF b 8192 (fun k => k = b ∨ k = c0 ∨ k = 0)
      (W.Whole line.data.toList) (W.Begun line.data.toList) w := by
  intro l J Jx W0 hW0 hsame hJ hJx hY hj0
  refine callsIn_of_wp Tryd.func66 rfl trivial ?_ rfl
  simp only [Tryd.ntmps66, List.size_toArray, List.length_cons, List.length_nil, Nat.reduceAdd, Nat.reduceSub, Array.replicate_succ, Array.replicate_zero, List.push_toArray, List.append_toArray, List.nil_append, List.cons_append]
  have hcell : W0.cell? ⟨c0, 0, none⟩ = some (.string line) := (World.cell?_of_block (a := ⟨c0, 0, none⟩) (hsame c0 (Or.inr (Or.inl rfl)) hc0)).trans hc
  have hE0 : EscIn W0 := by
    obtain ⟨t, fr, h⟩ := hE
    exact ⟨t, fr, (hsame _ (Or.inr (Or.inr rfl)) h0).trans h⟩
  have hca : ∀ o, (W0.alloc o).cell? ⟨c0, 0, none⟩ = some (.string line) := fun o => ((Below.refl _ _).alloc (Nat.le_refl _) o |>.cell (p := ⟨c0, 0, none⟩) (by show c0 < _; omega)).trans hcell
  refine wpIn_scope_jumps (Lab l b c0 line J) jumpLen ?_ ?_
  · intro lbl a Wd hL
    have hlbl : lbl = 1 ∨ lbl = 0 ∨ lbl = 2 := by
      obtain ⟨r, fs0, sz, u2, u6, u7, u8, u9, u10, u11, u12, u13, u14, u15, u16, u17, u18, u19, u20, u21, u22, u23, u24, u25, u26, u27, u28, u29, u30, u31, u32, u33, u34, u35, u36, u37, u38, u39, u40, u41, u42, u43, u44, u45, u46, u47, u48, u49, u50, u51, u52, u53, u54, u55, _, _, _, _, _, _, _, (h | ⟨h, _⟩ | ⟨h, _⟩)⟩ := hL
      · exact Or.inl h
      · exact Or.inr (Or.inl h)
      · exact Or.inr (Or.inr h)
    rcases hlbl with rfl | rfl | rfl
    · obtain ⟨rest, hr, hw⟩ := iter_one n l b c0 hn line hs h0 J Jx hJ _ a Wd hL (Nat.le_refl _)
      exact ⟨_, hr, wpIn_seq (wpIn_skip hw)⟩
    · obtain ⟨rest, hr, hw⟩ := iter_zero n l b c0 hn line hs h0 J Jx hJ hY _ a Wd hL (Nat.le_refl _)
      exact ⟨_, hr, wpIn_seq (wpIn_skip hw)⟩
    · obtain ⟨rest, hr, hw⟩ := iter_two n l b c0 hn line hs J Jx hY _ a Wd hL (Nat.le_refl _)
      exact ⟨_, hr, wpIn_seq (wpIn_skip hw)⟩
  · by_cases he : line.data.toList = []
    · have he' : line.toList.isEmpty = true := by rw [ByteArray.toList_eq, he]; rfl
      have hl : W.Whole line.data.toList [] := ⟨[], true, Or.inl ⟨he, rfl, rfl⟩, rfl⟩
      have Hl := Lib.hid hl
      have Hj := Lib.hid (fun o => hJ _ _ _ hj0 (World.grownBy_alloc W0 o (some b)))
      clear hl he hJ hJx hY hj0 hE0 hsame hE hc
      gi_wp2
      refine jumps_ret (bodyPost_ret (results_none rfl _ _ _) rfl ?_)
      exact ⟨⟨_, rfl⟩, .inl ⟨_, Hl.out, Hj.out _⟩⟩
    · have he' : line.toList.isEmpty = false := by rw [ByteArray.toList_eq]; simpa using he
      have Hrest := Lib.hid (W.rest_start he)
      have Hj := Lib.hid (fun o => hJ _ _ _ hj0 (World.grownBy_alloc W0 o (some b)))
      have HE := Lib.hid (hE0.below ((Below.refl _ _).alloc (Nat.le_refl _) (.cells #[.string ⟨#[]⟩, .bool false] 45)))
      have HB : Hid ((W0.alloc (.cells #[.string ⟨#[]⟩, .bool false] 45)).heap[b]? = some (.cells #[.string ⟨#[]⟩, .bool false] 45 (0, 0))) := Lib.hid (by rw [← hW0]; exact World.alloc_heap_new W0 _)
      have Hb : Hid (b < (W0.alloc (.cells #[.string ⟨#[]⟩, .bool false] 45)).heap.size) := Lib.hid (by simp; omega)
      have HJ := Lib.hid hJ
      have HY := Lib.hid hY
      clear he hJ hJx hY hj0 hE0 hsame hE hc
      gi_wp2
      refine wpIn_label ?_
      rename_i hK
      refine hK _ _ ?_
      obtain ⟨rest, hr, hw⟩ := iter_one n l b c0 hn line hs h0 J Jx HJ.out _ { tmps := _, defers := [] } (W0.alloc (.cells #[.string ⟨#[]⟩, .bool false] 45)) ⟨line, [], _, _, _, _, _, _, _, _, _, _, _, _, _, _, _, _, _, _, _, _, _, _, _, _, _, _, _, _, _, _, _, _, _, _, _, _, _, _, _, _, _, _, _, _, _, _, _, _, _, _, _, _, rfl, Hrest.out, Nat.le_of_eq (Nat.zero_add _), Hj.out _, Hb.out, ⟨_, _, rfl, rfl, HB.out⟩, HE.out, Or.inl rfl⟩ (Nat.le_refl _)
      obtain rfl : _ = rest := Code.seq.inj (Option.some.inj hr) |>.2
      refine wpIn_mono hw ?_
      intro e a' w' h
      cases e with
      | goto l' => exact h.1
      | normal => exact h
      | ret => exact h
      | exit id => exact h
      | panic ch => exact h
      | outgrown => exact h
end Go.Proofs.YtbjfpmklmhgbdaaDoor
