/- The contract of joined: the spans of the set of all times that a span of the list has. -/
import Derived.Test.YtnehllkklmdpfaaDoorTmSorted
import Derived.StillTailTactics
import Derived.BigQuiet
namespace Go.Proofs.YtnehllkklmdpfaaDoor
open Go.RowKit Go.Shelf
open T (SV)
set_option linter.unusedSimpArgs false
set_option maxRecDepth 100000
theorem Values_any (A : Option Addr) (m c : Nat) (w : World) : Calls Tryd.prog 51 #[.slice A m c] w fun e w' => e = .returned (.func (.func 61) #[] #[.pointer (some ⟨w.heap.size, 0, none⟩)]) ∧ w.alloc (.cells #[.slice A m c] 29) = w' := by
  go_enter Tryd.func51, Tryd.ntmps51
  go_wp2_with fail
  go_ret
  exact ⟨rfl, rfl⟩
/-- The second number of the last span of a slice of the program's own is stored. -/
theorem OwnSp.setLast {w : World} {base g cap n : Nat} {init : List SV} {f e z : Int} (h : OwnSp w base (.slice (some ⟨g, 0, none⟩) n cap) (init ++ [(f, e)])) :
    OwnSp (w.setCell ⟨g, init.length * 2 + 1, none⟩ (.int .i64 z)) base (.slice (some ⟨g, 0, none⟩) n cap) (init ++ [(f, z)]) := by
  rcases h.2 with ⟨e0, _⟩ | ⟨g', cap', cur, e0, hb, hg, h1, h2, h3, h4⟩
  · cases e0
  · injection e0 with e1 e2 e3
    injection e1 with e1
    injection e1 with e1
    subst e1 e3
    have hl : (init ++ [(f, z)]).length = (init ++ [(f, e)]).length := by simp
    refine ⟨by rw [spCells_len], .inr ⟨g, cap, cur.setIfInBounds (init.length * 2 + 1) (.int .i64 z), ?_, hb, setCell_block _ hg, by rw [hl]; exact h1, h2, by simpa using h3, ?_⟩⟩
    · rw [hl, e2]
    · have hsz : init.length * 2 + 1 < cur.size := by rw [h3]; simp at h1; omega
      rw [hl]
      rw [Array.toList_setIfInBounds, List.take_set, h4, spCells_append, spCells_append]
      rw [List.set_append_right _ _ (by rw [spCells_len]; omega), spCells_len]
      rw [show init.length * 2 + 1 - init.length * 2 = 1 by omega]
      rfl
def JoinPost (l : List SV) (w : World) (e : Ending) (w' : World) : Prop := ∃ v acc, e = .returned v ∧ OwnSp w' w.heap.size v acc ∧ T.Canon (T.In l) acc ∧ Below w.heap.size w w'
namespace T
theorem nil_or_snoc (l : List SV) : l = [] ∨ ∃ i s, l = i ++ [s] := by
  rcases List.eq_nil_or_concat l with h | ⟨i, s, h⟩
  · exact Or.inl h
  · exact Or.inr ⟨i, s, by rw [h, List.concat_eq_append]⟩
/-- What has been joined of the first k spans, and that later ones begin not before. -/
structure Joined (l : List SV) (k : Nat) (acc : List SV) : Prop where
  canon : Canon (In (l.take k)) acc
  later : ∀ a ∈ acc, ∀ j (h : j < l.length), k ≤ j → a.1 ≤ (l[j]).1
  len : acc.length ≤ k
theorem joined_start (l : List SV) : Joined l 0 [] := ⟨⟨Asc.nil, fun _ => Iff.rfl⟩, by simp, Nat.le_refl _⟩
theorem in_take_succ {l : List SV} {k : Nat} (h : k < l.length) (t : Int) : In (l.take (k + 1)) t ↔ In (l.take k) t ∨ ((l[k]).1 ≤ t ∧ t < (l[k]).2) := by
  rw [(List.take_append_getElem h).symm, in_append, in_one]
theorem joined_push {l acc : List SV} {k : Nat} {s : SV} (hk : k < l.length) (hs : l[k] = s) (h : Joined l k acc) (hg : s.1 < s.2) (hl : ByFrom l) (hb : ∀ a ∈ acc, a.2 < s.1) : Joined l (k + 1) (acc ++ [s]) :=
  ⟨(push h.canon hg hb).of fun t => by rw [in_take_succ hk, hs], fun a ha j hj hkj => by
    rcases List.mem_append.1 ha with ha | ha
    · exact h.later a ha j hj (by omega)
    · rw [List.mem_singleton.1 ha, ← hs]
      exact List.pairwise_iff_getElem.1 hl k j hk hj (by omega), by simp; exact h.len⟩
theorem joined_merge {l init : List SV} {k : Nat} {f e : Int} {s : SV} (hk : k < l.length) (hs : l[k] = s) (h : Joined l k (init ++ [(f, e)])) (h2 : s.1 ≤ e) : Joined l (k + 1) (init ++ [(f, max e s.2)]) :=
  have h1 : f ≤ s.1 := by rw [← hs]; exact h.later (f, e) (by simp) k hk (Nat.le_refl _)
  ⟨(merge h.canon h1 h2).of fun t => by rw [in_take_succ hk, hs], fun a ha j hj hkj => by
    rcases List.mem_append.1 ha with ha | ha
    · exact h.later a (by simp [ha]) j hj (by omega)
    · rw [List.mem_singleton.1 ha]
      exact h.later (f, e) (by simp) j hj (by omega), by have := h.len; simp at this ⊢; omega⟩
theorem joined_end {l acc : List SV} {k : Nat} (hk : ¬ k < l.length) (h : Joined l k acc) : Canon (In l) acc := by
  have := h.canon
  rwa [List.take_of_length_le (by omega)] at this
end T
theorem last_cell {w : World} {base g cap n : Nat} {init : List SV} {f e : Int} (h : OwnSp w base (.slice (some ⟨g, 0, none⟩) n cap) (init ++ [(f, e)])) : w.cell? ⟨g, init.length * 2 + 1, none⟩ = some (.int .i64 e) ∧ w.frozen? ⟨g, init.length * 2 + 1, none⟩ = false := by
  have hc := World.ownsRow.cells h (g := g) rfl (init.length * 2 + 1) (.int .i64 e) (by
    have := (spCells_at (init ++ [(f, e)]) init.length (by simp)).2
    simpa using this)
  rw [addr_lit] at hc
  refine ⟨by simpa using hc, ?_⟩
  rcases h.2 with ⟨e0, _⟩ | ⟨g', cap', cur, e0, hb, hg, _⟩
  · cases e0
  · injection e0 with e1 e2 e3
    injection e1 with e1
    injection e1 with e1
    subst e1
    simp [World.frozen?, hg]
theorem own_form {w : World} {base : Nat} {v : Value} {init : List SV} {s : SV} (h : OwnSp w base v (init ++ [s])) : ∃ g cap, v = .slice (some ⟨g, 0, none⟩) (init.length + 1) cap ∧ base ≤ g ∧ g < w.heap.size ∧ init.length + 1 ≤ cap ∧ cap ≤ 9223372036854775807 := by
  rcases h.2 with ⟨_, h0⟩ | ⟨g, cap, cur, rfl, hb, hg, h1, h2, h3, h4⟩
  · simp at h0
  · unfold maxLen at h2
    exact ⟨g, cap, by simp, hb, (Array.getElem?_eq_some_iff.1 hg).1, by simpa using h1, by omega⟩
theorem own_form_nil {w : World} {base : Nat} {v : Value} (h : OwnSp w base v []) : v = .slice none 0 0 ∨ ∃ g cap, v = .slice (some ⟨g, 0, none⟩) 0 cap := by
  rcases h.2 with ⟨h0, _⟩ | ⟨g, cap, cur, h0, _⟩
  · exact Or.inl h0
  · exact Or.inr ⟨g, cap, h0⟩
set_option maxHeartbeats 4000000 in
theorem joined_any (A : Option Addr) (c m : Nat) (l : List SV) (w : World) (hl : SpIn w w.heap.size A c l) (hm : l.length = m) (hn : m ≤ 1000) (hg : T.Good l) :
    Calls Tryd.prog 40 #[.slice A m c] w (JoinPost l w) := by
  have HL := Lib.hid hl
  have Hm := Lib.hid hm
  have HGd := Lib.hid hg
  clear hl hm hg
  go_enter Tryd.func40, Tryd.ntmps40
  go_wp2_with fail
  refine (Values_any A m c w).mono ?_
  rintro e w1 ⟨rfl, hw1⟩
  have hb1 : Below w.heap.size w w1 := by rw [← hw1]; exact below_new _ _
  have hc1 : w1.cell? ⟨w.heap.size, 0, none⟩ = some (.slice A m c) := by rw [← hw1]; simp
  have HS := Lib.hid (SortedFunc_any A c m l w.heap.size w1 hc1 Hm.out (HL.out.on hb1) hn)
  have HB1 := Lib.hid hb1
  clear hw1 hc1 hb1
  go_wp2_with fail
  refine HS.out.mono ?_
  rintro e w2 ⟨A2, c2, l2, rfl, hsp, hperm, hby, hb2⟩
  have hb2' := bt HB1.out HB1.out.size hb2
  have hgd : T.Good l2 := fun s hs => HGd.out s (hperm.mem_iff.1 hs)
  obtain ⟨M, hM⟩ : ∃ M, l2.length = M := ⟨_, rfl⟩
  have hM1000 : M ≤ 1000 := by rw [← hM, hperm.length_eq, Hm.out]; exact hn
  have hle := hsp.le
  have hcm := hsp.cap
  unfold maxLen at hcm
  have HSp := Lib.hid hsp
  have HP := Lib.hid hperm
  have HBy := Lib.hid hby
  have HB2 := Lib.hid hb2'
  have HG2 := Lib.hid hgd
  have HM := Lib.hid hM
  rw [hM] at hle ⊢
  clear hsp hperm hby hb2 hb2' hgd hM HS
  go_wp2_with fail
  go_loopw [4, 13] (fun v i wr => ∃ (k : Nat) (acc : List SV), k ≤ M ∧ i = .int .i64 k ∧ Hid (OwnSp wr w2.heap.size v acc) ∧ Hid (T.Joined l2 k acc) ∧ Hid (Below w2.heap.size w2 wr)) (fun _ i _ => M - (intOf i).toNat)
  case atStart => exact ⟨0, [], Nat.zero_le _, rfl, Lib.hid (World.ownsRow_nil _ _ _ _), Lib.hid (T.joined_start _), Lib.hid (Below.refl _ _)⟩
  case round =>
    obtain ⟨k, acc, hk, rfl, hown, hj, hbel⟩ := hrel
    by_cases hlt : k < M
    · have hkf : k < l2.length := by rw [HM.out]; exact hlt
      obtain ⟨ad, rfl, hlb, c0, c1⟩ := (HSp.out.below hbel.out).at_ hkf
      obtain ⟨x, y, hs⟩ : ∃ x y, l2[k]'hkf = (x, y) := ⟨_, _, rfl⟩
      have hgs := HG2.out (x, y) (by rw [← hs]; exact List.getElem_mem hkf)
      have hnum := HSp.out.nums (x, y) (by rw [← hs]; exact List.getElem_mem hkf)
      rw [hs] at c0 c1
      rw [addr_one] at c1
      have Hs := Lib.hid hs
      have hsz := hbel.out.size
      have Hgs := Lib.hid hgs
      have Hnum := Lib.hid hnum
      clear hs hgs hnum
      rcases T.nil_or_snoc acc with rfl | ⟨init, ⟨f, e⟩, rfl⟩
      · have hj2 : Hid (T.Joined l2 (k + 1) [(x, y)]) := Lib.hid (T.joined_push hkf Hs.out hj.out Hgs.out.2.1 HBy.out (by simp))
        have hform := own_form_nil hown.out
        have hw1 : IntKind.i64.wrap (0 - 1) = -1 := IntWalk.i64_in _ (by omega)
        have HLen : Hid (([] : List SV).length ≤ 1000) := Lib.hid (by simp)
        rcases hform with rfl | ⟨g, cap, rfl⟩
        all_goals
          go_wp2_with fail
          go_quiet (fail)
          have hownq : OwnSp ((wr.alloc (.cells #[.int .i64 x, .int .i64 y] 32)).drewN nq) w2.heap.size _ [] := hown.out.kept (below_dn (below_new wr _) nq)
          have hbq : Below w2.heap.size w2 ((wr.alloc (.cells #[.int .i64 x, .int .i64 y] 32)).drewN nq) := below_dn (hbel.out.alloc hsz _) nq
          have HX : Hid (((wr.alloc (.cells #[.int .i64 x, .int .i64 y] 32)).drewN nq).cell? ⟨wr.heap.size, 0, none⟩ = some (.int .i64 x) ∧ ((wr.alloc (.cells #[.int .i64 x, .int .i64 y] 32)).drewN nq).cell? ⟨wr.heap.size, 1, none⟩ = some (.int .i64 y)) := Lib.hid (made_two wr x y _)
          generalize (wr.alloc (.cells #[.int .i64 x, .int .i64 y] 32)).drewN nq = wq at hownq hbq HX ⊢
          have hx0 : wq.cell? ⟨wr.heap.size, 0, none⟩ = some (.int .i64 x) := HX.out.1
          have hx1 : wq.cell? ⟨wr.heap.size, 1, none⟩ = some (.int .i64 y) := HX.out.2
          have hszq := hbq.size
          go_wp2_with (at_builtin; refine wp_append_sp rfl _ _ rfl w2.heap.size _ [] rfl (hownq.kept (below_new wq _)) (wq.heap.size + 1) _ 1 1 [(x, y)] rfl rfl (made_sp wq x y Hnum.out.1 Hnum.out.2 _) (by have := HLen.out; omega) (by simp; omega) ?_)
          intro v3 w3 hown3 hb3 _
          have HO3 := Lib.hid hown3
          have HB3 : Hid (Below w2.heap.size w2 w3) := Lib.hid ((hbq.alloc hszq _).trans hb3)
          clear hown3 hb3 hownq hbq hx0 hx1 c0 c1
          go_wp2_with fail
          go_roundw
          case rel => exact ⟨k + 1, _, by omega, by go_num, HO3, hj2, HB3⟩
          case measure => simp [intOf]; omega
      · obtain ⟨g, cap, rfl, hgb, hgw, hic, hcm2⟩ := own_form hown.out
        have hlen := hj.out.len
        obtain ⟨n0, hn0⟩ : ∃ n0, init.length = n0 := ⟨_, rfl⟩
        have hlast := (last_cell hown.out).1
        rw [hn0] at hlast hic
        have hn01 : n0 + 1 ≤ 1000 := by simp at hlen; omega
        have HLen : Hid ((init ++ [(f, e)]).length ≤ 1000) := Lib.hid (by simp; omega)
        have Hn0 := Lib.hid hn0
        have hw1 : IntKind.i64.wrap (((n0 + 1 : Nat) : Int) - 1) = (n0 : Int) := by rw [IntWalk.i64_in _ (by omega)]; omega
        rw [hn0]
        clear hlen hn0
        have hq : (wr.alloc (.cells #[.int .i64 x, .int .i64 y] 32)).cell? ⟨g, n0 * 2 + 1, none⟩ = some (.int .i64 e) := ((below_new wr _).cell (p := ⟨g, n0 * 2 + 1, none⟩) hgw).trans hlast
        by_cases hxe : x ≤ e
        · have hj2 : Hid (T.Joined l2 (k + 1) (init ++ [(f, max e y)])) := Lib.hid (T.joined_merge hkf Hs.out hj.out hxe)
          go_wp2_with fail
          go_quiet (fail)
          have hownq : OwnSp ((wr.alloc (.cells #[.int .i64 x, .int .i64 y] 32)).drewN nq) w2.heap.size (.slice (some ⟨g, 0, none⟩) (n0 + 1) cap) (init ++ [(f, e)]) := by rw [← Hn0.out]; exact hown.out.kept (below_dn (below_new wr _) nq)
          have hbq : Below w2.heap.size w2 ((wr.alloc (.cells #[.int .i64 x, .int .i64 y] 32)).drewN nq) := below_dn (hbel.out.alloc hsz _) nq
          have HX : Hid (((wr.alloc (.cells #[.int .i64 x, .int .i64 y] 32)).drewN nq).cell? ⟨wr.heap.size, 0, none⟩ = some (.int .i64 x) ∧ ((wr.alloc (.cells #[.int .i64 x, .int .i64 y] 32)).drewN nq).cell? ⟨wr.heap.size, 1, none⟩ = some (.int .i64 y)) := Lib.hid (made_two wr x y _)
          generalize (wr.alloc (.cells #[.int .i64 x, .int .i64 y] 32)).drewN nq = wq at hownq hbq HX ⊢
          have hx0 : wq.cell? ⟨wr.heap.size, 0, none⟩ = some (.int .i64 x) := HX.out.1
          have hx1 : wq.cell? ⟨wr.heap.size, 1, none⟩ = some (.int .i64 y) := HX.out.2
          have hlq := (last_cell hownq).1
          rw [Hn0.out] at hlq
          have HOq := Lib.hid hownq
          have HBq := Lib.hid hbq
          clear hownq hbq hq hlast c0 c1
          go_wp2_with fail
          have hbA : (n0 : Int) < ((n0 + 1 : Nat) : Int) := by omega
          have hbB : (n0 : Int) < (n0 : Int) + 1 := by omega
          have hbC : (0 : Int) ≤ (n0 : Int) := by omega
          have hmx : (if y > e then y else e) = max e y := by omega
          go_still_tail 12, (by kernel_rfl)
          change wpList _ _ _ _ _ wq.drew
          have hOd : OwnSp wq.drew w2.heap.size (.slice (some ⟨g, 0, none⟩) (n0 + 1) cap) (init ++ [(f, e)]) := HOq.out.kept (Below.refl _ _).drew
          have hBd : Below w2.heap.size w2 wq.drew := HBq.out.drew
          generalize wq.drew = wz at hOd hBd ⊢
          have hlz := (last_cell hOd).1
          have hfz := (last_cell hOd).2
          rw [Hn0.out] at hlz hfz
          have hO3 := OwnSp.setLast (z := max e y) hOd
          rw [Hn0.out] at hO3
          have HO3 := Lib.hid hO3
          have HB3 : Hid (Below w2.heap.size w2 (wz.setCell ⟨g, n0 * 2 + 1, none⟩ (.int .i64 (max e y)))) := Lib.hid (hBd.setCell (p := ⟨g, n0 * 2 + 1, none⟩) hgb _)
          clear hOd hBd hO3 hx0 hx1 hlq
          go_wp2_with fail
          go_roundw
          case rel => exact ⟨k + 1, _, by omega, by go_num, HO3, hj2, HB3⟩
          case measure => simp [intOf]; omega
        · have hxe' : decide (x ≤ e) = false := decide_eq_false hxe
          have hj2 : Hid (T.Joined l2 (k + 1) (init ++ [(f, e), (x, y)])) := Lib.hid (by
            have := T.joined_push hkf Hs.out hj.out Hgs.out.2.1 HBy.out (T.ends_before hj.out.canon.asc (by simp only; omega))
            rwa [List.append_assoc] at this)
          clear hxe
          go_wp2_with fail
          go_quiet (fail)
          have hownq : OwnSp ((wr.alloc (.cells #[.int .i64 x, .int .i64 y] 32)).drewN nq) w2.heap.size (.slice (some ⟨g, 0, none⟩) (n0 + 1) cap) (init ++ [(f, e)]) := by rw [← Hn0.out]; exact hown.out.kept (below_dn (below_new wr _) nq)
          have hbq : Below w2.heap.size w2 ((wr.alloc (.cells #[.int .i64 x, .int .i64 y] 32)).drewN nq) := below_dn (hbel.out.alloc hsz _) nq
          have HX : Hid (((wr.alloc (.cells #[.int .i64 x, .int .i64 y] 32)).drewN nq).cell? ⟨wr.heap.size, 0, none⟩ = some (.int .i64 x) ∧ ((wr.alloc (.cells #[.int .i64 x, .int .i64 y] 32)).drewN nq).cell? ⟨wr.heap.size, 1, none⟩ = some (.int .i64 y)) := Lib.hid (made_two wr x y _)
          generalize (wr.alloc (.cells #[.int .i64 x, .int .i64 y] 32)).drewN nq = wq at hownq hbq HX ⊢
          have hx0 : wq.cell? ⟨wr.heap.size, 0, none⟩ = some (.int .i64 x) := HX.out.1
          have hx1 : wq.cell? ⟨wr.heap.size, 1, none⟩ = some (.int .i64 y) := HX.out.2
          have hszq := hbq.size
          go_wp2_with (at_builtin; refine wp_append_sp rfl _ _ rfl w2.heap.size _ (init ++ [(f, e)]) rfl (hownq.kept (below_new wq _)) (wq.heap.size + 1) _ 1 1 [(x, y)] rfl rfl (made_sp wq x y Hnum.out.1 Hnum.out.2 _) (by have := HLen.out; omega) (by simp; omega) ?_)
          intro v3 w3 hown3 hb3 _
          have HO3 := Lib.hid hown3
          have HB3 : Hid (Below w2.heap.size w2 w3) := Lib.hid ((hbq.alloc hszq _).trans hb3)
          clear hown3 hb3 hownq hbq hx0 hx1 c0 c1 hq hlast
          go_wp2_with fail
          go_roundw
          case rel => exact ⟨k + 1, _, by omega, by go_num, HO3, hj2, HB3⟩
          case measure => simp [intOf]; omega
    · have HO := Lib.hid (T.joined_end (by rw [HM.out]; exact hlt) hj.out)
      have HF : Hid (JoinPost l w (.returned u4) wr) := Lib.hid ⟨_, acc, rfl, own_mono hown.out (by have := HB2.out.size; omega), HO.out.of (fun t => T.in_perm (fun s => HP.out.mem_iff) t), bt HB2.out HB2.out.size hbel.out⟩
      go_wp2_with fail
      go_ret
      exact HF.out
end Go.Proofs.YtnehllkklmdpfaaDoor
