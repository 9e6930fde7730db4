/- The iterator of slices.Values, of a slice of spans: it yields them all, in their order. -/
import Derived.Test.YtdkfaepmgennjaaHpSpan
import Derived.Shelf.Abstract
import Derived.Shelf.RegionOpen
import Derived.OwnWalkIn
import Derived.TacticsInMore
import Derived.LoopNIn
import Derived.LoopIn
namespace Go.Proofs.Ytdkfaepmgennjaa
open Go.RowKit Go.Shelf
open T (SV)
attribute [local go_sem] Oper.semAt_some
set_option linter.unusedSimpArgs false
/-- What is yielded. -/
def encS (s : SV) : Array Value := #[.agg #[.int .i64 s.1, .int .i64 s.2]]
/-- The blocks that the iterator reads. -/
def kpS (c0 m : Nat) (A : Option Addr) (k : Nat) : Prop := k = c0 ∨ (0 < m ∧ ∃ ad, A = some ad ∧ k = ad.block)
theorem SpIn.blocks {w w' : World} {B c : Nat} {A : Option Addr} {l : List SV} (h : SpIn w B A c l) (he : ∀ ad, A = some ad → w'.heap[ad.block]? = w.heap[ad.block]?) : SpIn w' B A c l :=
  ⟨h.le, h.cap, h.none_, fun ad e k hk => by
    obtain ⟨h1, h2, h3⟩ := h.cells ad e k hk
    have hb := he ad e
    exact ⟨h1, (World.cell?_of_block (a := ad.add (k * 2)) (by rw [addr_blk]; exact hb)).trans h2, (World.cell?_of_block (a := ad.add (k * 2 + 1)) (by rw [addr_blk]; exact hb)).trans h3⟩, h.nums⟩
theorem take_succ_sp {l : List SV} {k : Nat} (h : k < l.length) : l.take (k + 1) = l.take k ++ [l[k]] := (List.take_append_getElem h).symm
set_option maxRecDepth 100000 in
set_option maxHeartbeats 4000000 in
theorem values_iter (n : Nat) (hn : 1 ≤ n) (A : Option Addr) (c m : Nat) (l : List SV) (c0 b : Nat) (w : World) (hc : w.cell? ⟨c0, 0, none⟩ = some (.slice A m c)) (hc0 : c0 < b) (hm : l.length = m) (hl : SpIn w b A c l) :
    IterC Fence.wide n Try.prog 75 #[.pointer (some ⟨c0, 0, none⟩)] encS b m (kpS c0 m A) (fun xs => xs = l) (fun pre => pre <+: l) w := by
  intro L J Jx W0 hW0 hsame hJ hJx hY hj0
  refine callsIn_of_wp Try.func75 rfl trivial ?_ rfl
  simp only [Try.ntmps75, List.size_toArray, List.length_cons, List.length_nil, Nat.reduceAdd, Nat.reduceSub, Array.replicate_succ, Array.replicate_zero, List.push_toArray, List.append_toArray, List.nil_append, List.cons_append]
  have hcell : W0.cell? ⟨c0, 0, none⟩ = some (.slice A m c) := (World.cell?_of_block (a := ⟨c0, 0, none⟩) (hsame c0 (Or.inl rfl) hc0)).trans hc
  have hlA : ∀ ad, A = some ad → 0 < l.length → ad.block < b := fun ad e h0 => (hl.cells ad e 0 h0).1
  have hl0 : 0 < l.length → SpIn W0 b A c l := fun h0 => hl.blocks (fun ad e => hsame _ (Or.inr ⟨by omega, ad, e, rfl⟩) (hlA ad e h0))
  have hlc := hl.le
  have hcm := hl.cap
  unfold maxLen at hcm
  rw [hm] at hlc
  have Hm := Lib.hid hm
  have HL := Lib.hid hl0
  have HJ := Lib.hid hJ
  have HY := Lib.hid hY
  have HW0 := Lib.hid hW0
  have Hj0 := Lib.hid hj0
  have HlA := Lib.hid hlA
  clear hc hsame hJ hJx hY hl hl0 hm hW0 hj0 hlA
  gi_wp2
  gi_loopw [7] (fun i wr => ∃ k : Nat, k ≤ m ∧ i = .int .i64 k ∧ Hid (J (l.take k) wr) ∧ Hid (W0.heap.size ≤ wr.heap.size ∧ ∀ j, kpS c0 m A j → wr.heap[j]? = W0.heap[j]?))
    (fun i _ => m - (intOf i).toNat)
  case atStart => exact ⟨0, Nat.zero_le _, rfl, Lib.hid Hj0.out, Lib.hid ⟨Nat.le_refl _, fun _ _ => rfl⟩⟩
  case round =>
    obtain ⟨k, hk, rfl, hJs, hnx⟩ := hrel
    by_cases hlt : k < m
    · have hkf : k < l.length := by rw [Hm.out]; exact hlt
      obtain ⟨ad, rfl, hab, h1, h2⟩ := ((HL.out (by omega)).blocks (w' := wr) (fun ad e => hnx.out.2 _ (Or.inr ⟨by omega, ad, e, rfl⟩))).at_ hkf
      obtain ⟨x, y, hs⟩ : ∃ x y, l[k]'hkf = (x, y) := ⟨_, _, rfl⟩
      rw [hs] at h1 h2
      rw [addr_one] at h2
      have hJa : J (l.take k) (wr.alloc (.cells #[.int .i64 x, .int .i64 y] 64)) := HJ.out _ _ _ hJs.out (World.grownBy_alloc wr _ (some b))
      have hba : b < (wr.alloc (.cells #[.int .i64 x, .int .i64 y] 64)).heap.size := by have := hnx.out.1; have := HW0.out; simp; omega
      obtain ⟨fn, tmps, assign, body, hy, hR⟩ := HY.out (l.take k) (x, y) _ hJa (by rw [List.length_take]; omega) hba
      dsimp only [encS] at hy
      have hT : Hid (l.take (k + 1) = l.take k ++ [(x, y)]) := Lib.hid (by rw [take_succ_sp hkf, hs])
      have HR := Lib.hid hR
      have hab' : ad.block < wr.heap.size := by have := hnx.out.1; have := HW0.out; omega
      clear hs hJa hba hR
      gi_wp2
      refine HR.out.mono ?_
      rintro e W3 (⟨rfl, hJ3, hs3, hk3⟩ | ⟨rfl, hJx3⟩)
      · have hnx3 : Hid (W0.heap.size ≤ W3.heap.size ∧ ∀ j, kpS c0 m (some ad) j → W3.heap[j]? = W0.heap[j]?) := Lib.hid ⟨by have := hnx.out.1; simp at hs3; omega, fun j hj => by
          rw [hk3 j hj, Below.heap_alloc _ _ j (by rcases hj with rfl | ⟨_, ad', e, rfl⟩; (have := hnx.out.1; have := HW0.out; omega); (injection e with e; subst e; exact hab'))]
          exact hnx.out.2 j hj⟩
        have hJ4 : Hid (J (l.take (k + 1)) W3) := Lib.hid (by rw [hT.out]; exact hJ3)
        clear hk3 hJ3 hs3
        gi_wp2
        go_roundw
        case rel => exact ⟨k + 1, by omega, by go_num, hJ4, hnx3⟩
        case measure => simp [intOf]; omega
      · have HX : Hid (Jx (l.take (k + 1)) W3) := Lib.hid (by rw [hT.out]; exact hJx3)
        clear hJx3
        gi_wp2
        refine bodyPost_ret (results_none rfl _ _ _) rfl ?_
        exact ⟨⟨_, rfl⟩, .inr ⟨_, List.take_prefix _ _, HX.out⟩⟩
    · have hO : Hid (J l wr) := Lib.hid (by
        have := hJs.out
        rwa [List.take_of_length_le (by rw [Hm.out]; omega)] at this)
      gi_wp2
      go_end0
      exact ⟨⟨_, rfl⟩, .inl ⟨_, rfl, hO.out⟩⟩
end Go.Proofs.Ytdkfaepmgennjaa
