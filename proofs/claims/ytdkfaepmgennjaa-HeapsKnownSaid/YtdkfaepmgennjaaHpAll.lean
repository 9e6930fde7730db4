/- The iterator of All, of a queue of 1 to 12 values. -/
import Derived.Test.YtdkfaepmgennjaaHpSave
import Derived.Test.YtdkfaepmgennjaaHpRange2
import Derived.Test.YtdkfaepmgennjaaHpIter
import Derived.LoopNIn
import Derived.LoopIn
namespace Go.Proofs.Ytdkfaepmgennjaa
open Go.RowKit Go.Shelf
open H (IT)
attribute [local go_sem] Oper.semAt_some
set_option linter.unusedSimpArgs false
def encI (x : IT) : Array Value := #[.int .i64 x.1, .int .i64 x.2]
theorem QAt.blocks {w w' : World} {g gm n N : Nat} {s v : Value} {nx : Int} {l : List IT} (h : QAt w g gm n s nx v N l) (hb : ∀ k, k < w.heap.size → w'.heap[k]? = w.heap[k]?) : QAt w' g gm n s nx v N l := by
  obtain ⟨D, hD, hS⟩ := h.map
  have hgm := hD.lt
  obtain ⟨es, clock, h1, rest⟩ := hD
  exact ⟨(hb _ (Array.getElem?_eq_some_iff.1 h.row).1).trans h.row, h.own.kept (fun k hk => hb k (h.own.lt k hk)), ⟨D, ⟨es, clock, (hb gm hgm).trans h1, rest⟩, hS⟩, h.ngm, h.ng, h.nm, h.uniq, h.wf⟩
set_option maxRecDepth 100000 in
set_option maxHeartbeats 4000000 in
theorem all1_iter (n : Nat) (hn : 1 ≤ n) (nf : Nat) (ord : Int → Int → Bool) (ho : OrdN nf ord) (g gm gl cap m N : Nat) (nx : Int) (l : List IT) (c0 b : Nat) (w : World) (hq : QAt w g gm nf (self g) nx (.slice (some ⟨gl, 0, none⟩) m cap) N l) (hm : l.length = m) (h0 : 0 < m) (h12 : m ≤ 12)
    (hc : w.cell? ⟨c0, 0, none⟩ = some (.pointer (some ⟨g, 0, none⟩))) :
    IterF Fence.wide n Try.prog 59 #[.pointer (some ⟨c0, 0, none⟩)] encI b m (fun xs => xs = H.isort ord m l) (fun pre => pre <+: H.isort ord m l) w := by
  intro L J Jx Fr W0 hW0 hsame hJ hJx hFr hFr0 hY hj0
  have hc0 := World.block_lt_of_cell? w ⟨c0, 0, none⟩ hc
  have hcell : W0.cell? ⟨c0, 0, none⟩ = some (.pointer (some ⟨g, 0, none⟩)) := (World.cell?_of_block (a := ⟨c0, 0, none⟩) (hsame c0 hc0)).trans hc
  have HSv := Lib.hid (Save_any nf ord ho g gm gl cap m N nx l W0 (hq.blocks hsame) hm h0 h12)
  have hSl : (H.isort ord m l).length = m := by rw [H.isort_len]; exact hm
  obtain ⟨S, hS⟩ : ∃ S, H.isort ord m l = S := ⟨_, rfl⟩
  rw [hS] at hSl HSv ⊢
  have Hm := Lib.hid hSl
  have HJ := Lib.hid hJ
  have HF := Lib.hid hFr
  have HF0 := Lib.hid hFr0
  have HY := Lib.hid hY
  have HW0 := Lib.hid hW0
  have Hj0 := Lib.hid hj0
  have qf : ∀ (a b : Value) (w : World), (Instr.field 24 (.agg #[a, b]) 1).run Try.prog w = .ok b w := fun _ _ _ => by kernel_rfl
  clear hc hsame hJ hJx hFr hFr0 hY hW0 hj0 hSl hS hq ho hm
  refine callsIn_of_wp Try.func59 rfl trivial ?_ rfl
  simp only [Try.ntmps59, List.size_toArray, List.length_cons, List.length_nil, Nat.reduceAdd, Nat.reduceSub, Array.replicate_succ, Array.replicate_zero, List.push_toArray, List.append_toArray, List.nil_append, List.cons_append]
  gi_wp2_with (first | (refine ⟨trivial, ?_⟩; gi_at_call 17; refine (callsIn_wide.2 HSv.out).mono ?_; rintro e w1 ⟨gd, cap', rfl, hO, hgd, hb⟩))
  have hgdl : gd < w1.heap.size := hO.lt gd rfl
  have hJ1 : J [] w1 := HJ.out _ _ _ Hj0.out ⟨hb.os, hb.tape, hb.output, hb.size, fun k hk _ => hb.block k hk⟩
  have hF1 : Fr [] w1 gd := HF0.out w1 gd hJ1 (by have := HW0.out; omega) hgdl
  have hW1b : b ≤ w1.heap.size := by have := HW0.out; have := hb.size; omega
  have HO := Lib.hid hO
  have HJ1 := Lib.hid hJ1
  have HF1 := Lib.hid hF1
  have HG := Lib.hid hgdl
  have HB1 := Lib.hid hW1b
  have HGD := Lib.hid (show b ≤ gd by have := HW0.out; omega)
  clear hO hJ1 hF1 hgdl hW1b hb hgd HF0 HSv Hj0 hcell hc0
  gi_loopw [9] (fun i wr => ∃ k : Nat, k ≤ m ∧ i = .int .i64 k ∧ Hid (J (S.take k) wr) ∧ Hid (Fr (S.take k) wr gd) ∧ Hid (w1.heap.size ≤ wr.heap.size) ∧ Hid (wr.heap[gd]? = w1.heap[gd]?))
    (fun i _ => m - (intOf i).toNat)
  case atStart => exact ⟨0, Nat.zero_le _, rfl, Lib.hid HJ1.out, Lib.hid HF1.out, Lib.hid (Nat.le_refl _), Lib.hid rfl⟩
  case round =>
    obtain ⟨k, hk, rfl, hJs, hFs, hsz, hgk⟩ := hrel
    by_cases hlt : k < m
    · have hkf : k < S.length := by rw [Hm.out]; exact hlt
      obtain ⟨-, h1, h2⟩ := HO.out.at_ hkf
      obtain ⟨⟨x, y⟩, hs⟩ : ∃ z, S[k]'hkf = z := ⟨_, rfl⟩
      rw [hs] at h1 h2
      replace h1 : wr.cell? ⟨gd, k * 2, none⟩ = some (.int .i64 x) := (World.cell?_of_block (a := ⟨gd, k * 2, none⟩) hgk.out).trans h1
      replace h2 : wr.cell? ⟨gd, k * 2 + 1, none⟩ = some (.int .i64 y) := (World.cell?_of_block (a := ⟨gd, k * 2 + 1, none⟩) hgk.out).trans h2
      have hJa : J (S.take k) (wr.alloc (.cells #[.int .i64 x, .int .i64 y] 64)) := HJ.out _ _ _ hJs.out (World.grownBy_alloc wr _ (some b))
      have hFa : Fr (S.take k) (wr.alloc (.cells #[.int .i64 x, .int .i64 y] 64)) gd := HF.out _ _ _ _ hFs.out (World.grownBy_alloc wr _ (some b))
      have hgl : gd < wr.heap.size := by have := HG.out; have := hsz.out; omega
      have hga : (wr.alloc (.cells #[.int .i64 x, .int .i64 y] 64)).heap[gd]? = w1.heap[gd]? := (Below.heap_alloc _ _ gd hgl).trans hgk.out
      have hba : b < (wr.alloc (.cells #[.int .i64 x, .int .i64 y] 64)).heap.size := by have := hsz.out; have := HB1.out; simp; omega
      obtain ⟨fn, tmps, assign, body, hy, hR⟩ := HY.out (S.take k) (x, y) _ hJa (by rw [List.length_take]; omega) hba
      dsimp only [encI] at hy
      have hT : Hid (S.take (k + 1) = S.take k ++ [(x, y)]) := Lib.hid (by rw [take_succ_sp hkf, hs])
      have HR := Lib.hid hR
      have HFa := Lib.hid hFa
      have HGa := Lib.hid hga
      have HGl := Lib.hid (show gd < (wr.alloc (.cells #[.int .i64 x, .int .i64 y] 64)).heap.size by simp; omega)
      clear hs hJa hba hR hFa hga hgl
      gi_wp2
      refine HR.out.mono ?_
      rintro e W3 (⟨rfl, hJ3, hs3, hk3⟩ | ⟨rfl, hJx3⟩)
      · have q := hk3 gd HFa.out HGl.out
        have hg3 : Hid (W3.heap[gd]? = w1.heap[gd]?) := Lib.hid (q.1.trans HGa.out)
        have hF3 : Hid (Fr (S.take (k + 1)) W3 gd) := Lib.hid (by rw [hT.out]; exact q.2)
        have hz3 : Hid (w1.heap.size ≤ W3.heap.size) := Lib.hid (by have := hsz.out; simp at hs3; omega)
        have hJ4 : Hid (J (S.take (k + 1)) W3) := Lib.hid (by rw [hT.out]; exact hJ3)
        clear hk3 hJ3 hs3 q
        gi_wp2
        go_roundw
        case rel => exact ⟨k + 1, by omega, by go_num, hJ4, hF3, hz3, hg3⟩
        case measure => simp [intOf]; omega
      · have HX : Hid (Jx (S.take (k + 1)) W3) := Lib.hid (by rw [hT.out]; exact hJx3)
        clear hJx3
        gi_wp2
        refine bodyPost_ret (results_none rfl _ _ _) rfl ?_
        exact ⟨⟨_, rfl⟩, .inr ⟨_, List.take_prefix _ _, HX.out⟩⟩
    · have hO : Hid (J S wr) := Lib.hid (by
        have := hJs.out
        rwa [List.take_of_length_le (by rw [Hm.out]; omega)] at this)
      gi_wp2
      go_end0
      exact ⟨⟨_, rfl⟩, .inl ⟨_, rfl, hO.out⟩⟩
end Go.Proofs.Ytdkfaepmgennjaa
