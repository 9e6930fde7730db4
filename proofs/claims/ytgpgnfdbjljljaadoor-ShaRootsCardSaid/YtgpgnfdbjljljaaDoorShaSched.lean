/- The contract of package sha's schedule. -/
import Derived.Test.YtgpgnfdbjljljaaDoorShaStep
import Derived.Laws.Rows
import Derived.Deep.WholeRow
import Derived.StillTailTactics
import Derived.IntWalk
import Derived.Laws.CopyOwn
namespace Go.Proofs.YtgpgnfdbjljljaaDoor
open Go.RowKit
namespace S
def byteV (c : UInt8) : Value := .int .u8 (c.toNat : Int)
def wordV (x : Nat) : Value := .int .u32 (x : Int)
/-- A block of memory whose cells are known. -/
def Row (w : World) (g : Nat) (t : TypeId) (cs : List Value) : Prop := w.heap[g]? = some (.cells cs.toArray t (0, 0))
theorem Row.cell {w : World} {g : Nat} {t : TypeId} {cs : List Value} (h : Row w g t cs) {j : Nat} {v : Value} (hv : cs[j]? = some v) : w.cell? ⟨g, j, none⟩ = some v := by
  rw [cell_of_row w g j _ t (0, 0) h]; simpa using hv
theorem Row.frozen {w : World} {g : Nat} {t : TypeId} {cs : List Value} (h : Row w g t cs) (j : Nat) : w.frozen? ⟨g, j, none⟩ = false := frozen_of_row w g j _ t h
theorem Row.lt {w : World} {g : Nat} {t : TypeId} {cs : List Value} (h : Row w g t cs) : g < w.heap.size := (Array.getElem?_eq_some_iff.1 h).1
theorem Row.below {w w' : World} {g B : Nat} {t : TypeId} {cs : List Value} (h : Row w g t cs) (hb : Below B w w') (hg : g < B) : Row w' g t cs := (hb.block g hg).trans h
theorem Row.alloc {w : World} {g : Nat} {t : TypeId} {cs : List Value} (h : Row w g t cs) (o : Obj) : Row (w.alloc o) g t cs := (Below.heap_alloc w o g h.lt).trans h
theorem Row.new (w : World) (t : TypeId) (cs : Array Value) : Row (w.alloc (.cells cs t)) w.heap.size t cs.toList := by unfold Row; rw [heap_alloc_last]
theorem Row.made (w : World) (t : TypeId) (cs : Array Value) {g : Nat} {l : List Value} (hg : g = w.heap.size) (hl : l.toArray = cs) : Row (w.alloc (.cells cs t)) g t l := by subst hg hl; exact Row.new w t _
theorem Row.set {w : World} {g : Nat} {t : TypeId} {cs : List Value} (h : Row w g t cs) (i : Nat) (v : Value) : Row (w.setCell ⟨g, i, none⟩ v) g t (cs.set i v) := by
  have := heap_setCell_same w g i cs.toArray t v h
  unfold Row; rw [this]; simp
theorem Row.setOther {w : World} {g : Nat} {t : TypeId} {cs : List Value} (h : Row w g t cs) (a : Addr) (ha : g ≠ a.block) (v : Value) : Row (w.setCell a v) g t cs := (heap_setCell_other w a g v ha).trans h
theorem Row.drewN {w : World} {g : Nat} {t : TypeId} {cs : List Value} (h : Row w g t cs) (n : Nat) : Row (w.drewN n) g t cs := h
section
variable {P : Program}
theorem run_slice_from (w : World) (t e : TypeId) (g n k : Nat) (z : Int) (hu : P.underlying t = some (.array n e)) (hs : (P.info? e).map (·.size) = some 1) (hz : z = (k : Int)) (hk : k < n) :
    (Instr.sliceAt t (.pointer (some ⟨g, 0, none⟩)) (some (.int .i64 z)) none none).run P w = .ok (.slice (some ⟨g, k, none⟩) (n - k) (n - k)) w := by
  subst hz
  cases hq : P.info? e with
  | none => simp [hq] at hs
  | some i =>
    have hi : i.size = 1 := by simpa [hq] using hs
    have hadd : (⟨g, 0, none⟩ : Addr).add k = ⟨g, k, none⟩ := by unfold Addr.add; split <;> simp_all
    have h1 : ¬ n < k := by omega
    have h2 : k ≤ n := by omega
    simp [Instr.sliceAt, Instr.sureAddr, run_underlying hu, Instr.sliceBounds, Instr.sliceBound, asIntOf, sizeOf, typeInfo, hq, hi, hadd, h2, show ¬ n = k by omega]
theorem run_arrayAt (w : World) (t e : TypeId) (a : Addr) (n len cap : Nat) (hu : P.underlying t = some (.array n e)) (hl : n ≤ len) :
    (Instr.arrayAt t (.slice (some a) len cap)).run P w = .ok (.pointer (some a)) w := by
  simp [Instr.arrayAt, run_underlying hu, show ¬ len < n by omega]
end
/-- The words of a schedule of which only the first ones are there. -/
def fill (l : List UInt8) (k : Nat) : List Nat := ws l k ++ List.replicate (64 - k) 0
theorem ws_len (l : List UInt8) (k : Nat) : (ws l k).length = k := by
  induction k with
  | zero => rfl
  | succ k ih => simp [ws, ih]
theorem fill_len (l : List UInt8) {k : Nat} (h : k ≤ 64) : (fill l k).length = 64 := by simp [fill, ws_len]; omega
theorem fill_set (l : List UInt8) {k : Nat} (h : k < 64) : (fill l k).set k (next l (ws l k) k) = fill l (k + 1) := by
  unfold fill
  have e : 64 - k = (64 - (k + 1)) + 1 := by omega
  rw [List.set_append_right _ _ (by rw [ws_len]; omega), ws_len, Nat.sub_self, e, List.replicate_succ, List.set_cons_zero, ws, List.append_assoc]
  rfl
theorem fill_get (l : List UInt8) {k j : Nat} (h : j < k) : (fill l k)[j]? = some ((ws l k).getD j 0) := by
  unfold fill
  rw [List.getElem?_append_left (by rw [ws_len]; exact h), List.getD_eq_getElem?_getD]
  rw [List.getElem?_eq_getElem (by rw [ws_len]; exact h)]
  rfl
theorem fill_at (l : List UInt8) {k : Nat} (h : k < 64) : ((fill l k).map wordV)[k]? = some (.int .u32 0) := by
  unfold fill
  rw [List.getElem?_map, List.getElem?_append_right (by rw [ws_len]; omega), ws_len, Nat.sub_self, List.getElem?_replicate, if_pos (by omega)]
  rfl
theorem fill_word (l : List UInt8) {k : Nat} (h : k < 16) : ((fill l k).map wordV).set k (.int .u32 (wordOf (at_ l (k * 4)) (at_ l (k * 4 + 1)) (at_ l (k * 4 + 2)) (at_ l (k * 4 + 3)) : Nat)) = (fill l (k + 1)).map wordV := by
  rw [← fill_set l (by omega), List.map_set]
  unfold next
  rw [if_pos h, Nat.mul_comm k 4]
  rfl
theorem fill_val (l : List UInt8) {k j : Nat} (h : j < k) : ((fill l k).map wordV)[j]? = some (.int .u32 ((ws l k).getD j 0)) := by
  rw [List.getElem?_map, fill_get l h]; rfl
theorem fill_next (l : List UInt8) {k : Nat} (h : k < 64) : ((fill l k).map wordV).set k (.int .u32 (next l (ws l k) k : Nat)) = (fill l (k + 1)).map wordV := by
  rw [← fill_set l (by omega), List.map_set]
  rfl
theorem fill_all (l : List UInt8) : fill l 64 = ws l 64 := by simp [fill]
theorem next_lt (b : List UInt8) (l : List Nat) (t : Nat) : next b l t < 4294967296 := by
  unfold next
  split
  · have h1 : ∀ j, at_ b j < 256 := fun j => UInt8.toNat_lt _
    have h2 := h1 (4 * t)
    have h3 := h1 (4 * t + 1)
    have h4 := h1 (4 * t + 2)
    have h5 := h1 (4 * t + 3)
    unfold wordOf
    omega
  · exact Nat.mod_lt _ (by decide)
theorem ws_all (l : List UInt8) (k : Nat) : ∀ x ∈ ws l k, x < 4294967296 := by
  induction k with
  | zero => intro x h; cases h
  | succ k ih =>
    intro x h
    rw [ws, List.mem_append] at h
    rcases h with h | h
    · exact ih x h
    · rw [List.mem_singleton.1 h]; exact next_lt _ _ _
theorem ws_lt (l : List UInt8) (k j : Nat) : (ws l k).getD j 0 < 4294967296 := by
  rw [List.getD_eq_getElem?_getD]
  cases h : (ws l k)[j]? with
  | none => decide
  | some x => exact ws_all l k x (List.mem_of_getElem? h)
theorem byte_get (l : List UInt8) {j : Nat} (h : j < l.length) : (l.map byteV)[j]? = some (.int .u8 (at_ l j)) := by
  rw [List.getElem?_map, List.getElem?_eq_getElem h]
  unfold at_ byteV
  rw [List.getD_eq_getElem?_getD, List.getElem?_eq_getElem h]
  rfl
theorem at_lt (l : List UInt8) (j : Nat) : at_ l j < 256 := UInt8.toNat_lt _
end S
theorem S.info_words : (Tryd.prog.info? 50).map (·.size) = some 64 := by kernel_rfl
set_option maxRecDepth 100000 in
set_option maxHeartbeats 1000000 in
theorem schedule_any (l : List UInt8) (hl : l.length = 64) (w : World) :
    Calls Tryd.prog 71 #[.agg (l.map S.byteV).toArray] w fun e w' => e = .returned (.agg ((S.ws l 64).map S.wordV).toArray) ∧ Below w.heap.size w w' := by
  have HL := Lib.hid hl
  clear hl
  go_enter Tryd.func71, Tryd.ntmps71
  go_wp2_with fail
  go_loopw [8] (fun i wr => ∃ k : Nat, k ≤ 16 ∧ i = .int .i64 k ∧ S.Row wr w.heap.size 60 (l.map S.byteV) ∧ S.Row wr (w.heap.size + 1) 50 (List.replicate 64 (S.wordV 0)) ∧ S.Row wr (w.heap.size + 1 + 1) 50 ((S.fill l k).map S.wordV) ∧ Below w.heap.size w wr) (fun i _ => 16 - (intOf i).toNat)
  case atStart => exact ⟨0, Nat.zero_le _, rfl, ((S.Row.made _ _ _ rfl rfl).alloc _).alloc _, (S.Row.made _ _ _ (by simp) rfl).alloc _, S.Row.made _ _ _ (by simp) rfl, (((Below.refl _ _).alloc (Nat.le_refl _) _).alloc (by simp) _).alloc (by simp; omega) _⟩
  case round =>
    obtain ⟨k, hk, rfl, hr0, hr1, hr2, hbel⟩ := hrel
    have hlen := HL.out
    by_cases hlt : k < 16
    · have c0 := hr0.cell (S.byte_get l (j := k * 4) (by omega))
      have c1 := hr0.cell (S.byte_get l (j := k * 4 + 1) (by omega))
      have c2 := hr0.cell (S.byte_get l (j := k * 4 + 2) (by omega))
      have c3 := hr0.cell (S.byte_get l (j := k * 4 + 3) (by omega))
      have s0 : (Instr.sliceAt 60 (.pointer (some ⟨w.heap.size, 0, none⟩)) (some (.int .i64 ((k : Int) * 4))) none none).run Tryd.prog wr = .ok (.slice (some ⟨w.heap.size, k * 4, none⟩) (64 - k * 4) (64 - k * 4)) wr := S.run_slice_from wr _ _ _ 64 (k * 4) _ Tryd.underlying60 (by kernel_rfl) (by omega) (by omega)
      have s1 : (Instr.arrayAt 97 (.slice (some ⟨w.heap.size, k * 4, none⟩) (64 - k * 4) (64 - k * 4))).run Tryd.prog wr = .ok (.pointer (some ⟨w.heap.size, k * 4, none⟩)) wr := S.run_arrayAt wr _ _ _ 4 _ _ Tryd.underlying97 (by omega)
      clear hlen
      go_wp2_with fail
      refine (wordOf_any _ _ _ _ (S.at_lt l _) (S.at_lt l _) (S.at_lt l _) (S.at_lt l _) _).mono ?_
      rintro e w1 ⟨rfl, hb1⟩
      have hlt0 := hr0.lt
      have hlt2 := hr2.lt
      have hr0' := hr0.below hb1 hr0.lt
      have hr1' := hr1.below hb1 hr1.lt
      have hr2' := hr2.below hb1 hr2.lt
      have hcell := hr2'.cell (j := k) (S.fill_at l (k := k) (by omega))
      have hfr := hr2'.frozen k
      have HB := Lib.hid (hbel.trans (hb1.mono hbel.size))
      have HS := Lib.hid (S.fill_word l (k := k) (by omega))
      clear c0 c1 c2 c3 s0 s1 hb1 hbel hr0 hr1 hr2
      go_wp2_with fail
      go_roundw
      case rel => exact ⟨k + 1, by omega, by go_num, hr0'.setOther _ (by simp; omega) _, hr1'.setOther _ (by simp) _, HS.out ▸ hr2'.set k _, HB.out.setCell (by simp; omega) _⟩
      case measure => simp [intOf]; omega
    · obtain rfl : k = 16 := by omega
      clear hlt hk
      go_wp2_with fail
      have hr0 := trivial
      go_loopw [6] (fun i wr => ∃ k : Nat, 16 ≤ k ∧ k ≤ 64 ∧ i = .int .i64 k ∧ S.Row wr (w.heap.size + 1) 50 (List.replicate 64 (S.wordV 0)) ∧ S.Row wr (w.heap.size + 1 + 1) 50 ((S.fill l k).map S.wordV) ∧ Below w.heap.size w wr) (fun i _ => 64 - (intOf i).toNat)
      case atStart => exact ⟨16, by omega, by omega, rfl, hr1, hr2, hbel⟩
      case round =>
        clear hr1 hr2 hbel
        obtain ⟨k, hk16, hk, rfl, hr1, hr2, hbel⟩ := hrel
        by_cases hlt : k < 64
        · obtain ⟨p2, h2⟩ : ∃ p : Nat, p = k - 2 := ⟨_, rfl⟩
          obtain ⟨p7, h7⟩ : ∃ p : Nat, p = k - 7 := ⟨_, rfl⟩
          obtain ⟨p15, h15⟩ : ∃ p : Nat, p = k - 15 := ⟨_, rfl⟩
          obtain ⟨p16, h16⟩ : ∃ p : Nat, p = k - 16 := ⟨_, rfl⟩
          obtain ⟨x2, X2⟩ : ∃ x, Hid (x = (S.ws l k).getD p2 0) := ⟨_, Lib.hid rfl⟩
          obtain ⟨x7, X7⟩ : ∃ x, Hid (x = (S.ws l k).getD p7 0) := ⟨_, Lib.hid rfl⟩
          obtain ⟨x15, X15⟩ : ∃ x, Hid (x = (S.ws l k).getD p15 0) := ⟨_, Lib.hid rfl⟩
          obtain ⟨x16, X16⟩ : ∃ x, Hid (x = (S.ws l k).getD p16 0) := ⟨_, Lib.hid rfl⟩
          have d0 := hr2.cell (S.fill_val l (k := k) (j := p2) (by omega))
          have d1 := hr2.cell (S.fill_val l (k := k) (j := p7) (by omega))
          have d2 := hr2.cell (S.fill_val l (k := k) (j := p15) (by omega))
          have d3 := hr2.cell (S.fill_val l (k := k) (j := p16) (by omega))
          rw [← X2.out] at d0
          rw [← X7.out] at d1
          rw [← X15.out] at d2
          rw [← X16.out] at d3
          have b2 : x2 < 4294967296 := by rw [X2.out]; exact S.ws_lt l k p2
          have b15 : x15 < 4294967296 := by rw [X15.out]; exact S.ws_lt l k p15
          have g2 : (p2 : Int) < 64 := by omega
          have g7 : (p7 : Int) < 64 := by omega
          have g15 : (p15 : Int) < 64 := by omega
          have g16 : (p16 : Int) < 64 := by omega
          have w2 : IntKind.i64.wrap ((k : Int) - 2) = (p2 : Int) := by rw [IntWalk.i64_in _ (by omega)]; omega
          have w7 : IntKind.i64.wrap ((k : Int) - 7) = (p7 : Int) := by rw [IntWalk.i64_in _ (by omega)]; omega
          have w15 : IntKind.i64.wrap ((k : Int) - 15) = (p15 : Int) := by rw [IntWalk.i64_in _ (by omega)]; omega
          have w16 : IntKind.i64.wrap ((k : Int) - 16) = (p16 : Int) := by rw [IntWalk.i64_in _ (by omega)]; omega
          have HX := Lib.hid (show S.next l (S.ws l k) k = (S.s1 x2 + x7 + S.s0 x15 + x16) % 4294967296 by unfold S.next; rw [if_neg (by omega), X2.out, X7.out, X15.out, X16.out, h2, h7, h15, h16])
          have HV := Lib.hid (show IntKind.u32.wrap (IntKind.u32.wrap (IntKind.u32.wrap ((S.s1 x2 : Nat) + (x7 : Int)) + (S.s0 x15 : Nat)) + (x16 : Int)) = ((S.next l (S.ws l k) k : Nat) : Int) by rw [HX.out]; simp only [IntKind.wrap_u32']; omega)
          clear h2 h7 h15 h16
          go_wp2_with fail
          refine wp_region_still_tail 23 (by kernel_rfl) (by kernel_rfl) ?_
          simp only [List.take_succ_cons, List.take_zero, List.drop_succ_cons, List.drop_zero]
          repeat still_step
          still_call ((smallS1_any x2 b2 _).mono fun _ _ h => ⟨h.1, h.2.symm⟩)
          repeat still_step
          still_call ((smallS0_any x15 b15 _).mono fun _ _ h => ⟨h.1, h.2.symm⟩)
          repeat still_step
          refine wpStill_nil ?_
          rw [HV.out]
          change wpList _ _ _ _ _ wr.drew
          have hr1' : S.Row wr.drew (w.heap.size + 1) 50 (List.replicate 64 (S.wordV 0)) := hr1
          have hr2' : S.Row wr.drew (w.heap.size + 1 + 1) 50 ((S.fill l k).map S.wordV) := hr2
          have HB := Lib.hid (show Below w.heap.size w wr.drew from hbel.drew)
          generalize wr.drew = wz at hr1' hr2' HB ⊢
          have hcell := hr2'.cell (j := k) (S.fill_at l (k := k) (by omega))
          have hfr := hr2'.frozen k
          have HS := Lib.hid (S.fill_next l (k := k) (by omega))
          clear d0 d1 d2 d3 w2 w7 w15 w16 hbel hr1 hr2
          go_wp2_with fail
          go_roundw
          case rel => (repeat apply Exists.intro); exact ⟨⟨k + 1, by omega, by omega, by go_num, hr1'.setOther _ (by simp) _, HS.out ▸ hr2'.set k _, HB.out.setCell (by simp; omega) _⟩, rfl⟩
          case measure => simp [intOf]; omega
        · obtain rfl : k = 64 := by omega
          have hlt0 := hr1.lt
          have hlt2 := hr2.lt
          have HF := Lib.hid (S.fill_all l)
          rw [HF.out] at hr2
          have HB := Lib.hid hbel
          clear hlt hk hk16 hbel
          have HS64 := S.info_words
          go_wp2_with (first
            | (refine wpList_load_row rfl 50 (.tmp 3) rfl (w.heap.size + 1 + 1) rfl _ _ (0, 0) _ hr2 Tryd.underlying50 rfl (by rw [HS64]; simp [S.ws_len]) ?_)
            | (refine wpList_store_row rfl 50 (.tmp 2) (.tmp 48) rfl (w.heap.size + 1) _ rfl rfl _ _ hr1 (by rw [HS64]; simp [S.ws_len]) (by simp [S.ws_len]) (by simp [S.wordV, Value.oneCell']) ?_))
          have hfin := setRow_heap wr (w.heap.size + 1) _ ((S.ws l 64).map S.wordV).toArray _ _ hr1
          exact bodyPost_ret (v := .agg _) (results_cell_row Tryd.results71 _ _ (w.heap.size + 1) _ _ _ _ rfl hfin Tryd.underlying50 rfl (by rw [HS64]; simp [S.ws_len])) rfl ⟨rfl, below_setRow HB.out (by omega) _⟩
end Go.Proofs.YtgpgnfdbjljljaaDoor
