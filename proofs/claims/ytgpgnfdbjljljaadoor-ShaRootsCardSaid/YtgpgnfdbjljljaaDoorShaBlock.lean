/- The contract of package sha's Block. -/
import Derived.Test.YtgpgnfdbjljljaaDoorShaSched
import Derived.ChangeKeysEq
namespace Go.Proofs.YtgpgnfdbjljljaaDoor
open Go.RowKit
namespace S
section
variable {P : Program}
theorem run_index_agg (w : World) (t e n k : Nat) (cs : Array Value) (z : Int) (v : Value) (hu : P.underlying t = some (.array n e)) (hs : (P.info? e).map (·.size) = some 1) (hp : P.plainKey e = true) (hz : z = (k : Int)) (hk : k < n) (hv : cs[k]? = some v) :
    (Instr.index t (.agg cs) (.int .i64 z)).run P w = .ok v w := by
  subst hz
  cases hq : P.info? e with
  | none => simp [hq] at hs
  | some i =>
    have hi : i.size = 1 := by simpa [hq] using hs
    simp [Instr.index, asIntOf, run_underlying hu, sizeOf, typeInfo, hq, hi, hk, Go.run_part_plain w hp hv]
end
/-- What the package's variables hold. -/
structure SLaid (w : World) : Prop where
  k : ∃ t fr, w.heap[0]? = some (.cells (K.map wordV).toArray t fr)
  s : ∃ t fr, w.heap[1]? = some (.cells (vals start) t fr)
theorem SLaid.lt {w : World} (h : SLaid w) : 1 < w.heap.size ∧ 0 < w.heap.size := by
  obtain ⟨⟨_, _, h1⟩, ⟨_, _, h2⟩⟩ := h
  have a := (Array.getElem?_eq_some_iff.1 h1).1
  have b := (Array.getElem?_eq_some_iff.1 h2).1
  omega
theorem SLaid.below {w w' : World} {B : Nat} (h : SLaid w) (hb : Below B w w') (hB : 2 ≤ B) : SLaid w' := by
  obtain ⟨⟨t, fr, h1⟩, ⟨t', fr', h2⟩⟩ := h
  exact ⟨⟨t, fr, (hb.block _ (by omega)).trans h1⟩, ⟨t', fr', (hb.block _ (by omega)).trans h2⟩⟩
theorem SLaid.const {w : World} (h : SLaid w) {k : Nat} (hk : k < 64) : w.cell? ⟨0, k, none⟩ = some (.int .u32 (K.getD k 0 : Nat)) := by
  obtain ⟨⟨t, fr, h1⟩, _⟩ := h
  rw [cell_of_row w _ k _ t fr h1]
  have : k < K.length := hk
  rw [List.getElem?_toArray, List.getElem?_map, List.getElem?_eq_getElem this, List.getD_eq_getElem?_getD, List.getElem?_eq_getElem this]
  rfl
/-- The words of the schedule of a block, by a name of their own. -/
structure IsWs (l : List UInt8) (W : List Nat) : Prop where
  eq : W = ws l 64
theorem IsWs.len {l : List UInt8} {W : List Nat} (h : IsWs l W) : W.length = 64 := by rw [h.eq, ws_len]
def stAt (s : St) (W : List Nat) (k : Nat) : St := run s (K.take k) (W.take k)
theorem run_snoc : ∀ (ks ws : List Nat) (s : St) (k : Nat), k < ks.length → k < ws.length → run s (ks.take (k + 1)) (ws.take (k + 1)) = step (run s (ks.take k) (ws.take k)) ((ks.getD k 0 + ws.getD k 0) % 4294967296)
  | [], _, _, _, h, _ => by simp at h
  | _ :: _, [], _, _, _, h => by simp at h
  | a :: ks, b :: ws, s, 0, _, _ => by simp [run]
  | a :: ks, b :: ws, s, k + 1, h1, h2 => by
    simp only [List.take_succ_cons, run, List.getD_cons_succ]
    exact run_snoc ks ws _ k (by simpa using h1) (by simpa using h2)
theorem stAt_snoc (s : St) {W : List Nat} (hW : W.length = 64) {k : Nat} (h : k < 64) : stAt s W (k + 1) = step (stAt s W k) ((K.getD k 0 + W.getD k 0) % 4294967296) :=
  run_snoc K W s k h (by rw [hW]; exact h)
theorem step_ok {s : St} (h : s.ok) (x : Nat) : (step s x).ok := by
  obtain ⟨⟨ha, hb, hc, hd⟩, he, hf, hg, hh⟩ := h
  exact ⟨⟨Nat.mod_lt _ (by decide), ha, hb, hc⟩, Nat.mod_lt _ (by decide), he, hf, hg⟩
theorem stAt_ok {s : St} (h : s.ok) {W : List Nat} (hW : W.length = 64) : ∀ k, k ≤ 64 → (stAt s W k).ok
  | 0, _ => h
  | k + 1, hk => by rw [stAt_snoc s hW (by omega)]; exact step_ok (stAt_ok h hW k (by omega)) _
theorem stAt_all (s : St) {l : List UInt8} {W : List Nat} (h : IsWs l W) : add (stAt s W 64) s = block s l := by
  unfold stAt block
  rw [List.take_of_length_le (by decide), List.take_of_length_le (by rw [h.len]; exact Nat.le_refl _), h.eq]
theorem add_ok (s t : St) : (add s t).ok := ⟨⟨Nat.mod_lt _ (by decide), Nat.mod_lt _ (by decide), Nat.mod_lt _ (by decide), Nat.mod_lt _ (by decide)⟩, Nat.mod_lt _ (by decide), Nat.mod_lt _ (by decide), Nat.mod_lt _ (by decide), Nat.mod_lt _ (by decide)⟩
theorem block_ok (s : St) (l : List UInt8) : (block s l).ok := add_ok _ _
theorem ws_at {W : List Nat} (hW : W.length = 64) {k : Nat} (h : k < 64) : (W.map wordV).toArray[k]? = some (.int .u32 (W.getD k 0 : Nat)) := by
  rw [List.getElem?_toArray, List.getElem?_map, List.getElem?_eq_getElem (by rw [hW]; exact h), List.getD_eq_getElem?_getD, List.getElem?_eq_getElem (by rw [hW]; exact h)]
  rfl
theorem list_at (s : St) {k : Nat} (h : k < 8) : (#[.int .u32 s.a, .int .u32 s.b, .int .u32 s.c, .int .u32 s.d, .int .u32 s.e, .int .u32 s.f, .int .u32 s.g, .int .u32 s.h] : Array Value)[k]? = some (.int .u32 (s.list.getD k 0 : Nat)) := by
  obtain rfl | rfl | rfl | rfl | rfl | rfl | rfl | rfl : k = 0 ∨ k = 1 ∨ k = 2 ∨ k = 3 ∨ k = 4 ∨ k = 5 ∨ k = 6 ∨ k = 7 := by omega
  all_goals rfl
/-- Eight words, the first ones of which are added to others. -/
def mixed (st s : St) (k : Nat) : List Nat := (add st s).list.take k ++ st.list.drop k
theorem mixed_at (st s : St) {k : Nat} (h : k < 8) : ((mixed st s k).map wordV)[k]? = some (.int .u32 (st.list.getD k 0 : Nat)) := by
  obtain rfl | rfl | rfl | rfl | rfl | rfl | rfl | rfl : k = 0 ∨ k = 1 ∨ k = 2 ∨ k = 3 ∨ k = 4 ∨ k = 5 ∨ k = 6 ∨ k = 7 := by omega
  all_goals rfl
theorem mixed_set (st s : St) {k : Nat} (h : k < 8) : ((mixed st s k).map wordV).set k (.int .u32 ((st.list.getD k 0 + s.list.getD k 0) % 4294967296 : Nat)) = (mixed st s (k + 1)).map wordV := by
  obtain rfl | rfl | rfl | rfl | rfl | rfl | rfl | rfl : k = 0 ∨ k = 1 ∨ k = 2 ∨ k = 3 ∨ k = 4 ∨ k = 5 ∨ k = 6 ∨ k = 7 := by omega
  all_goals rfl
theorem info_bytes : (Tryd.prog.info? 60).map (·.size) = some 64 := by kernel_rfl
theorem info_eight : (Tryd.prog.info? 56).map (·.size) = some 8 := by kernel_rfl
theorem info_vals (s : St) : (Tryd.prog.info? 56).map (·.size) = some (vals s).size := info_eight
theorem vals_size (s t : St) : (vals s).toList.toArray.size = (vals t).size := rfl
theorem vals_one (s : St) : (vals s).all (·.oneCell') = true := by simp [vals, Value.oneCell']
theorem info_word : (Tryd.prog.info? 49).map (·.size) = some 1 := by kernel_rfl
theorem plain_word : Tryd.prog.plainKey 49 = true := by kernel_rfl
end S
set_option maxRecDepth 100000 in
set_option maxHeartbeats 200000 in
theorem Block_any (s : S.St) (hs : s.ok) (l : List UInt8) (hl : l.length = 64) (w : World) (hK : S.SLaid w) :
    Calls Tryd.prog 65 #[.agg (S.vals s), .agg (l.map S.byteV).toArray] w fun e w' => e = .returned (.agg (S.vals (S.block s l))) ∧ Below w.heap.size w w' := by
  have HL := Lib.hid hl
  have HK := Lib.hid hK
  have hlt2 := hK.lt.1
  obtain ⟨V, HV⟩ : ∃ V, Hid (V = S.vals (S.block s l)) := ⟨_, Lib.hid rfl⟩
  rw [← HV.out]
  have HO := Lib.hid hs
  clear hl hK hs
  unfold S.vals
  go_enter Tryd.func65, Tryd.ntmps65
  go_wp2_with (refine wpList_load_row rfl 60 (.tmp 3) rfl (w.heap.size + 1) rfl _ (l.map S.byteV).toArray (0, 0) _ (((S.Row.made _ _ _ (by simp) rfl).alloc _).alloc _) Tryd.underlying60 rfl (by rw [S.info_bytes]; simp [HL.out]) ?_)
  have hlen := HL.out
  refine (schedule_any l hlen _).mono ?_
  rintro e w1 ⟨rfl, hb1⟩
  clear hlen
  obtain ⟨W, HW⟩ : ∃ W, S.IsWs l W := ⟨_, ⟨rfl⟩⟩
  rw [← HW.eq]
  have HWl := Lib.hid HW.len
  have hz0 : w.heap.size + 4 ≤ w1.heap.size := by have := hb1.size; simp at this; omega
  have hr0 : S.Row w1 w.heap.size 56 (S.vals s).toList := ((((S.Row.made w _ _ rfl rfl).alloc _).alloc _).alloc _).below hb1 (by simp; omega)
  have hr2 : S.Row w1 (w.heap.size + 1 + 1) 56 (List.replicate 8 (S.wordV 0)) := ((S.Row.made _ _ _ (by simp) rfl).alloc _).below hb1 (by simp)
  have hr3 : S.Row w1 (w.heap.size + 1 + 1 + 1) 56 (S.vals s).toList := (S.Row.made _ _ _ (by simp) rfl).below hb1 (by simp)
  have hb : Below w.heap.size w w1 := (((((Below.refl _ _).alloc (Nat.le_refl _) _).alloc (by simp) _).alloc (by simp; omega) _).alloc (by simp; omega) _).trans (hb1.mono (by (try simp); (try omega)))
  clear hb1
  go_wp2_with fail
  go_loopw [13] (fun i wr => ∃ k : Nat, k ≤ 64 ∧ i = .int .i64 k ∧ S.Row wr w.heap.size 56 (S.vals s).toList ∧ S.Row wr (w.heap.size + 1 + 1) 56 (List.replicate 8 (S.wordV 0)) ∧ S.Row wr (w.heap.size + 1 + 1 + 1) 56 (S.vals (S.stAt s W k)).toList ∧ Below w.heap.size w wr) (fun i _ => 64 - (intOf i).toNat)
  case atStart => exact ⟨0, Nat.zero_le _, rfl, hr0, hr2, hr3, hb⟩
  case round =>
    clear hr0 hr2 hr3 hb hz0
    obtain ⟨k, hk, rfl, hr0, hr2, hr3, hbel⟩ := hrel
    by_cases hlt : k < 64
    · obtain ⟨x, X⟩ : ∃ x, Hid (x = W.getD k 0) := ⟨_, Lib.hid rfl⟩
      obtain ⟨c, C⟩ : ∃ c, Hid (c = S.K.getD k 0) := ⟨_, Lib.hid rfl⟩
      have hidx : (Instr.index 50 (.agg (W.map S.wordV).toArray) (.int .i64 (k : Int))).run Tryd.prog wr = .ok (.int .u32 x) wr := S.run_index_agg wr _ 49 64 k _ _ _ Tryd.underlying50 S.info_word S.plain_word rfl hlt (by rw [X.out]; exact S.ws_at HWl.out hlt)
      have hcon := (HK.out.below hbel (by omega)).const hlt
      rw [← C.out] at hcon
      have hok := S.stAt_ok HO.out HWl.out k hk
      have HN := Lib.hid (S.stAt_snoc s HWl.out hlt)
      rw [← X.out, ← C.out] at HN
      have HX := Lib.hid (show IntKind.u32.wrap ((c : Int) + (x : Int)) = (((c + x) % 4294967296 : Nat) : Int) by simp only [IntKind.wrap_u32']; omega)
      generalize S.stAt s W k = st at hr3 hok HN
      have c0 := hr3.cell (j := 0) (v := .int .u32 st.a) rfl
      have c1 := hr3.cell (j := 1) (v := .int .u32 st.b) rfl
      have c2 := hr3.cell (j := 2) (v := .int .u32 st.c) rfl
      have c3 := hr3.cell (j := 3) (v := .int .u32 st.d) rfl
      have c4 := hr3.cell (j := 4) (v := .int .u32 st.e) rfl
      have c5 := hr3.cell (j := 5) (v := .int .u32 st.f) rfl
      have c6 := hr3.cell (j := 6) (v := .int .u32 st.g) rfl
      have c7 := hr3.cell (j := 7) (v := .int .u32 st.h) rfl
      go_wp2_with fail
      refine wp_region_still_tail 6 (by kernel_rfl) (by kernel_rfl) ?_
      simp only [List.take_succ_cons, List.take_zero, List.drop_succ_cons, List.drop_zero]
      repeat still_step
      refine wpStill_nil ?_
      change wpList _ _ _ _ _ wr.drew
      rw [HX.out]
      have hr0' : S.Row wr.drew w.heap.size 56 (S.vals s).toList := hr0
      have hr2' : S.Row wr.drew (w.heap.size + 1 + 1) 56 (List.replicate 8 (S.wordV 0)) := hr2
      have hr3' : S.Row wr.drew (w.heap.size + 1 + 1 + 1) 56 (S.vals st).toList := hr3
      have hb' : Below w.heap.size w wr.drew := hbel.drew
      generalize wr.drew = wz at hr0' hr2' hr3' hb' ⊢
      clear c0 c1 c2 c3 c4 c5 c6 c7 hr0 hr2 hr3 hbel hidx hcon
      go_wp2_with fail
      refine (step_any st hok _ (Nat.mod_lt _ (by decide)) _).mono ?_
      rintro e w2 ⟨rfl, hb2⟩
      have hr0 := hr0'.below hb2 hr0'.lt
      have hr2 := hr2'.below hb2 hr2'.lt
      have hr3 := hr3'.below hb2 hr3'.lt
      have hB := Lib.hid (hb'.trans (hb2.mono hb'.size))
      have HO2 := Lib.hid hok
      clear hr0' hr2' hr3' hb' hb2 hok
      rw [← HN.out]
      go_wp2_with (refine wpList_store_row rfl 56 (.tmp 5) (.tmp 23) rfl (w.heap.size + 1 + 1 + 1) _ rfl rfl _ _ hr3 (S.info_vals _) (S.vals_size _ _) (S.vals_one _) ?_)
      have hr0' : S.Row (w2.setRow (w.heap.size + 1 + 1 + 1) (S.vals (S.stAt s W (k + 1)))) w.heap.size 56 (S.vals s).toList := (setRow_other w2 _ _ _ (by omega)).trans hr0
      have hr2' : S.Row (w2.setRow (w.heap.size + 1 + 1 + 1) (S.vals (S.stAt s W (k + 1)))) (w.heap.size + 1 + 1) 56 (List.replicate 8 (S.wordV 0)) := (setRow_other w2 _ _ _ (by omega)).trans hr2
      have hr3' : S.Row (w2.setRow (w.heap.size + 1 + 1 + 1) (S.vals (S.stAt s W (k + 1)))) (w.heap.size + 1 + 1 + 1) 56 (S.vals (S.stAt s W (k + 1))).toList := setRow_heap w2 _ _ _ _ _ hr3
      have hb' := below_setRow hB.out (g := w.heap.size + 1 + 1 + 1) (by omega) (S.vals (S.stAt s W (k + 1)))
      go_wp2_with fail
      go_roundw
      case rel => first | exact ⟨k + 1, by omega, by go_num, hr0', hr2', hr3', hb'⟩ | ((repeat apply Exists.intro); exact ⟨⟨k + 1, by omega, by go_num, hr0', hr2', hr3', hb'⟩, rfl⟩)
      case measure => simp [intOf]; omega
    · obtain rfl : k = 64 := by omega
      have HA := Lib.hid (S.stAt_all s HW)
      generalize S.stAt s W 64 = st at hr3 HA
      have c0 := hr0.cell (j := 0) (v := .int .u32 s.a) rfl
      have c1 := hr0.cell (j := 1) (v := .int .u32 s.b) rfl
      have c2 := hr0.cell (j := 2) (v := .int .u32 s.c) rfl
      have c3 := hr0.cell (j := 3) (v := .int .u32 s.d) rfl
      have c4 := hr0.cell (j := 4) (v := .int .u32 s.e) rfl
      have c5 := hr0.cell (j := 5) (v := .int .u32 s.f) rfl
      have c6 := hr0.cell (j := 6) (v := .int .u32 s.g) rfl
      have c7 := hr0.cell (j := 7) (v := .int .u32 s.h) rfl
      clear hlt hk hr0
      go_wp2_with fail
      clear c0 c1 c2 c3 c4 c5 c6 c7
      go_loopw [26] (fun i wr => ∃ k : Nat, k ≤ 8 ∧ i = .int .i64 k ∧ S.Row wr (w.heap.size + 1 + 1) 56 (List.replicate 8 (S.wordV 0)) ∧ S.Row wr (w.heap.size + 1 + 1 + 1) 56 ((S.mixed st s k).map S.wordV) ∧ Below w.heap.size w wr) (fun i _ => 8 - (intOf i).toNat)
      case atStart => exact ⟨0, Nat.zero_le _, rfl, hr2, hr3, hbel⟩
      case round =>
        clear hr2 hr3 hbel
        obtain ⟨k, hk, rfl, hr2, hr3, hbel⟩ := hrel
        by_cases hlt : k < 8
        · have hidx : (Instr.index 56 (.agg #[.int .u32 s.a, .int .u32 s.b, .int .u32 s.c, .int .u32 s.d, .int .u32 s.e, .int .u32 s.f, .int .u32 s.g, .int .u32 s.h]) (.int .i64 (k : Int))).run Tryd.prog wr = .ok (.int .u32 (s.list.getD k 0 : Nat)) wr := S.run_index_agg wr _ 49 8 k _ _ _ Tryd.underlying56 S.info_word S.plain_word rfl hlt (S.list_at s hlt)
          have hcell := hr3.cell (j := k) (S.mixed_at st s hlt)
          have hfr := hr3.frozen k
          have HM := Lib.hid (S.mixed_set st s hlt)
          have HB := Lib.hid hbel
          generalize s.list.getD k 0 = x at hidx HM
          generalize st.list.getD k 0 = y at hcell HM
          clear hbel
          have HX := Lib.hid (show ((y : Int) + (x : Int)) % 4294967296 = (((y + x) % 4294967296 : Nat) : Int) by omega)
          go_wp2_with fail
          rw [HX.out]
          go_roundw
          case rel => first | exact ⟨k + 1, by omega, by go_num, hr2.setOther _ (by simp) _, HM.out ▸ hr3.set k _, HB.out.setCell (by simp; omega) _⟩ | ((repeat apply Exists.intro); exact ⟨⟨k + 1, by omega, by go_num, hr2.setOther _ (by simp) _, HM.out ▸ hr3.set k _, HB.out.setCell (by simp; omega) _⟩, rfl⟩)
          case measure => simp [intOf]; omega
        · obtain rfl : k = 8 := by omega
          have hr3' : S.Row wr (w.heap.size + 1 + 1 + 1) 56 V.toList := by rw [HV.out, ← HA.out]; exact hr3
          have HB := Lib.hid hbel
          have HVs := Lib.hid (show V.size = 8 by rw [HV.out]; rfl)
          have HV1 := Lib.hid (show V.all (·.oneCell') = true by rw [HV.out]; exact S.vals_one _)
          clear hbel hr3 hlt hk
          go_wp2_with (first
            | (refine wpList_load_row rfl 56 (.tmp 5) rfl (w.heap.size + 1 + 1 + 1) rfl _ V (0, 0) _ hr3' Tryd.underlying56 rfl (by rw [HVs.out]; exact S.info_eight) ?_)
            | (refine wpList_store_row rfl 56 (.tmp 4) (.tmp 37) rfl (w.heap.size + 1 + 1) V rfl rfl _ _ hr2 (by rw [HVs.out]; exact S.info_eight) (by rw [HVs.out]; rfl) HV1.out ?_))
          have hfin := setRow_heap wr (w.heap.size + 1 + 1) _ V _ _ hr2
          exact bodyPost_ret (v := .agg V) (results_cell_row Tryd.results65 _ _ (w.heap.size + 1 + 1) _ _ _ _ rfl hfin Tryd.underlying56 rfl (by rw [HVs.out]; exact S.info_eight)) rfl ⟨rfl, below_setRow HB.out (by omega) _⟩
end Go.Proofs.YtgpgnfdbjljljaaDoor
