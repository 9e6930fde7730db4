/- The contracts of package hmac's Block and pad. -/
import Derived.Test.YtgpgnfdbjljljaaDoorHmMath
import Derived.Test.YtgpgnfdbjljljaaDoorShaEq
namespace Go.Proofs.YtgpgnfdbjljljaaDoor
open Go.RowKit
namespace M
theorem copy_in {w : World} {ops : Array Oper} {rest : List Oper} {o : Oper} {a : Act} {Q : Exit → Act → World → Prop} (hgd : o.guard = none) (d s : Operand)
    (ho : o.op = .call { callee := .builtin .copy, args := #[d, s], argTypes := #[33, 33] })
    (g off dLen dCap n : Nat) (A : Option Addr) (c : Nat) (l : List UInt8) (B : Nat) (hn : n = l.length) (hd : a.eval d = .slice (some ⟨g, off, none⟩) dLen dCap) (hs : a.eval s = .slice A n c)
    (cur : List Value) (t : TypeId) (hg : S.Row w g t cur) (hin : BytesIn w B A c l) (hle : l.length ≤ dLen) (hfit : off + l.length ≤ cur.length)
    (h : ∀ w', S.Row w' g t (splice cur off (l.map S.byteV)) → S.But g w w' → wpList Tryd.prog ops Q rest (a.put o.dst (goInt n)) w') : wpList Tryd.prog ops Q (o :: rest) a w := by
  subst hn
  have hm : (l.map S.byteV).length = Nat.min l.length dLen := by rw [List.length_map]; exact (Nat.min_eq_left hle).symm
  cases A with
  | none =>
    obtain ⟨rfl, rfl⟩ := hin.none_ rfl
    refine wpList_copy_nothing hgd d s _ _ ho 5 Tryd.underlying33 S.info_byte _ _ dLen dCap _ _ hd hs (by simp) ?_
    exact h w (by simpa [splice] using hg) (S.But.refl _ _)
  | some ad =>
    refine S.wpList_copy_but hgd d s _ _ ho 5 Tryd.underlying33 S.info_byte g off dLen dCap ad _ c hd hs cur t hg (l.map S.byteV) hm (fun j v hj => hin.src ad rfl j v hj) (by simpa using hfit) (S.bytes_one _) ?_
    intro w' hr hb
    rw [List.length_map]
    exact h w' hr hb
theorem in_row {w : World} {g B : Nat} {t : TypeId} {l : List UInt8} (h : S.Row w g t (l.map S.byteV)) (hB : g < B) (hl : l.length ≤ 1000) : BytesIn w B (some ⟨g, 0, none⟩) l.length l := by
  refine ⟨Nat.le_refl _, by unfold maxLen; omega, fun e => (by cases e), fun ad e => ?_⟩
  injection e with e
  subst e
  intro j u hu
  refine ⟨hB, ?_⟩
  rw [S.addr_at, Nat.zero_add]
  exact h.cell (by rw [List.getElem?_map, hu]; rfl)
theorem fit_row {l : List UInt8} : splice (List.replicate 64 (S.byteV 0)) 0 (l.map S.byteV) = (fit l).map S.byteV := by
  unfold splice fit
  rw [List.take_zero, List.nil_append, List.map_append, List.map_replicate, List.drop_replicate, List.length_map, Nat.zero_add]
/-- A block that is combined as far as here. -/
def mixed (m : UInt8) (l : List UInt8) (k : Nat) : List UInt8 := (mix m l).take k ++ l.drop k
theorem mixed_len (m : UInt8) (l : List UInt8) (k : Nat) : (mixed m l k).length = l.length := by
  unfold mixed
  rw [List.length_append, List.length_take, mix_len, List.length_drop]
  omega
theorem mixed_zero (m : UInt8) (l : List UInt8) : mixed m l 0 = l := by simp [mixed]
theorem mixed_all (m : UInt8) (l : List UInt8) : mixed m l l.length = mix m l := by
  unfold mixed
  rw [List.take_of_length_le (by rw [mix_len]; exact Nat.le_refl _), List.drop_length, List.append_nil]
theorem mixed_at (m : UInt8) (l : List UInt8) {k : Nat} (h : k < l.length) : ((mixed m l k).map S.byteV)[k]? = some (.int .u8 (l[k].toNat : Int)) := by
  unfold mixed
  rw [List.getElem?_map, List.getElem?_append_right (by rw [List.length_take]; omega), List.length_take, mix_len, Nat.min_eq_left (by omega), Nat.sub_self, List.getElem?_drop, Nat.add_zero, List.getElem?_eq_getElem h]
  rfl
theorem mixed_set (m : UInt8) (l : List UInt8) {k : Nat} (h : k < l.length) : ((mixed m l k).map S.byteV).set k (.int .u8 ((l[k] ^^^ m).toNat : Int)) = (mixed m l (k + 1)).map S.byteV := by
  have hk : k < (mix m l).length := by rw [mix_len]; exact h
  have e : (mix m l)[k] = l[k] ^^^ m := by simp [mix]
  unfold mixed
  rw [show (Value.int .u8 ((l[k] ^^^ m).toNat : Int)) = S.byteV (l[k] ^^^ m) from rfl, ← List.map_set, List.drop_eq_getElem_cons h, List.set_append_right _ _ (by rw [List.length_take]; omega), List.length_take, Nat.min_eq_left (by omega), Nat.sub_self, List.set_cons_zero, List.take_succ_eq_append_getElem hk, e, List.append_assoc]
  rfl
end M
set_option maxRecDepth 100000 in
set_option maxHeartbeats 1000000 in
theorem KPad_any (m : UInt8) (l : List UInt8) (hl : l.length = 64) (z : Int) (hz : z = (m.toNat : Int)) (w : World) :
    Calls Tryd.prog 69 #[.agg (l.map S.byteV).toArray, .int .u8 z] w fun e w' => e = .returned (.agg ((M.mix m l).map S.byteV).toArray) ∧ Below w.heap.size w w' := by
  have HL := Lib.hid hl
  obtain ⟨R, HR⟩ : ∃ R, Hid (R = (M.mix m l).map S.byteV) := ⟨_, Lib.hid rfl⟩
  rw [← HR.out]
  have HRl := Lib.hid (show R.length = 64 by rw [HR.out, List.length_map, M.mix_len, hl])
  have HRi := Lib.hid (show (Tryd.prog.info? 60).map (·.size) = some R.toArray.size by rw [S.info_blk]; simp [HRl.out])
  have HR1 := Lib.hid (show R.toArray.all (·.oneCell') = true by rw [HR.out]; exact S.bvals_one _)
  have HZ := Lib.hid hz
  have hz0 : 0 ≤ z := by omega
  have hz1 : z < 256 := by have := m.toNat_lt; omega
  clear hl hz
  go_enter Tryd.func69, Tryd.ntmps69
  go_wp2_with fail
  generalize hwx : ((w.alloc _).alloc _) = wx
  have hrow : S.Row wx w.heap.size 60 (l.map S.byteV) := by rw [← hwx]; exact ((S.Row.made _ _ _ rfl rfl).alloc _)
  have hres : S.Row wx (w.heap.size + 1) 60 (List.replicate 64 (S.byteV 0)) := by rw [← hwx]; exact S.Row.made _ _ _ (by simp) rfl
  have hb0 : Below w.heap.size w wx := by rw [← hwx]; exact (((Below.refl _ w).alloc (Nat.le_refl _) _).alloc (by simp) _)
  clear hwx
  go_loopw [6] (fun i wr => ∃ k : Nat, k ≤ 64 ∧ i = .int .i64 k ∧ S.Row wr w.heap.size 60 ((M.mixed m l k).map S.byteV) ∧ S.Row wr (w.heap.size + 1) 60 (List.replicate 64 (S.byteV 0)) ∧ Below w.heap.size w wr) (fun i _ => 64 - (intOf i).toNat)
  case atStart => exact ⟨0, Nat.zero_le _, rfl, by rw [M.mixed_zero]; exact hrow, hres, hb0⟩
  case round =>
    clear hrow hres hb0
    obtain ⟨k, hk, rfl, hrow, hres, hbel⟩ := hrel
    by_cases hlt : k < 64
    · have hkl : k < l.length := by rw [HL.out]; exact hlt
      have hc := hrow.cell (M.mixed_at m l hkl)
      have hf := hrow.frozen k
      have HS := Lib.hid (M.mixed_set m l hkl)
      have hx := u8_xor_nat l[k].toNat m.toNat l[k].toNat_lt m.toNat_lt
      rw [← HZ.out, ← UInt8.toNat_xor] at hx
      generalize (l[k] ^^^ m).toNat = r at HS hx
      generalize l[k].toNat = y at hc hx
      clear hkl
      go_wp2_with fail
      go_roundw
      case rel => exact ⟨k + 1, by omega, by go_num, HS.out ▸ hrow.set k _, hres.setOther _ (by simp) _, hbel.setCell (by simp) _⟩
      case measure => simp [intOf]; omega
    · obtain rfl : k = 64 := by omega
      have he := M.mixed_all m l
      rw [HL.out] at he
      rw [he, ← HR.out] at hrow
      have hr' : S.Row wr w.heap.size 60 R.toArray.toList := hrow
      have HB := Lib.hid hbel
      clear hbel hrow he
      go_wp2_with (first
        | (refine wpList_load_row rfl 60 (.tmp 2) rfl w.heap.size rfl _ R.toArray (0, 0) _ hr' Tryd.underlying60 rfl HRi.out ?_)
        | (refine S.wpList_store_but rfl 60 (.tmp 4) (.tmp 16) rfl (w.heap.size + 1) R rfl rfl _ _ hres HRi.out (by rw [HRl.out]; rfl) HR1.out ?_; intro w9 hr9 hbut9))
      exact bodyPost_ret (v := .agg R.toArray) (results_cell_row Tryd.results69 _ _ (w.heap.size + 1) _ _ _ _ rfl hr9 Tryd.underlying60 rfl HRi.out) rfl ⟨rfl, HB.out.trans (hbut9.below (by simp) HB.out.size)⟩
set_option maxRecDepth 100000 in
set_option maxHeartbeats 1000000 in
theorem KBlock_any (A : Option Addr) (c : Nat) (key : List UInt8) (w : World) (hK : S.SLaid w) (hin : BytesIn w w.heap.size A c key) (hlen : key.length ≤ 1000000) :
    Calls Tryd.prog 32 #[.slice A key.length c] w fun e w' => e = .returned (.agg ((M.block key).map S.byteV).toArray) ∧ Below w.heap.size w w' := by
  have h2 := hK.lt.1
  have HK := Lib.hid hK
  obtain ⟨R, HR⟩ : ∃ R, Hid (R = (M.block key).map S.byteV) := ⟨_, Lib.hid rfl⟩
  rw [← HR.out]
  have HRl := Lib.hid (show R.length = 64 by rw [HR.out, List.length_map, M.block_len])
  have HRi := Lib.hid (show (Tryd.prog.info? 60).map (·.size) = some R.toArray.size by rw [S.info_blk]; simp [HRl.out])
  have HR1 := Lib.hid (show R.toArray.all (·.oneCell') = true by rw [HR.out]; exact S.bvals_one _)
  have HSum := fun w hw hi => Sum_any A c key w hw hi hlen
  obtain ⟨N, HN⟩ : ∃ N, Hid (N = key.length) := ⟨_, Lib.hid rfl⟩
  rw [← HN.out] at hlen HSum ⊢
  replace HSum := Lib.hid HSum
  have hb0 : Below w.heap.size w (w.alloc (.cells (Array.replicate 64 (S.byteV 0)) 60)) := (Below.refl _ _).alloc (Nat.le_refl _) _
  have hin0 := hin.below hb0
  have hres0 : S.Row (w.alloc (.cells (Array.replicate 64 (S.byteV 0)) 60)) w.heap.size 60 (List.replicate 64 (S.byteV 0)) := S.Row.made _ _ _ rfl rfl
  clear hK hin
  by_cases hlt : 64 < N
  · have hs : M.short key = S.digest key := by unfold M.short; rw [if_pos (by rw [← HN.out]; exact hlt)]
    have hlti : (64 : Int) < (N : Int) := by omega
    obtain ⟨D, HD⟩ : ∃ D, Hid (D = S.digV key) := ⟨_, Lib.hid rfl⟩
    have HDl := Lib.hid (show D.length = 32 by rw [HD.out, S.digV_len])
    have HDi := Lib.hid (show (Tryd.prog.info? 22).map (·.size) = some D.toArray.size by rw [HD.out]; exact S.digV_info _)
    have HD1 := Lib.hid (show D.toArray.all (·.oneCell') = true by rw [HD.out]; exact S.digV_one _)
    rw [← HD.out] at HSum
    go_enter Tryd.func32, Tryd.ntmps32
    go_wp2_with fail
    refine (HSum.out _ (HK.out.below hb0 (by omega)) (hin0.more (by simp))).mono ?_
    rintro e w1 ⟨rfl, hb1⟩
    have hb01 := hb0.trans (hb1.mono (by simp))
    have hres1 := hres0.below hb1 (by simp)
    clear hb0 hb1 hin0 hres0
    have HDE := Lib.hid (show D = (S.digest key).map S.byteV from HD.out)
    have HFR := Lib.hid (show splice (List.replicate 64 (S.byteV 0)) 0 ((S.digest key).map S.byteV) = R by rw [HR.out, M.fit_row]; unfold M.block; rw [hs])
    have HDL := Lib.hid (S.digest_len key)
    clear hs HD
    go_wp2_with (first
      | (refine S.wpList_store_but rfl 22 (.tmp 3) (.tmp 9) rfl w1.heap.size D rfl rfl _ _ (S.Row.made (l := (List.replicate 32 (0 : UInt8)).map S.byteV) _ _ _ rfl rfl) HDi.out (by rw [HDl.out]; rfl) HD1.out ?_; intro w2 hr2 hbut2; have hres2 := hbut2.row (hres1.alloc _) (by have := hres1.lt; omega); have hb02 := (hb01.alloc hb01.size (.cells (Array.replicate 32 (S.byteV 0)) 22)).trans (hbut2.below (C := w.heap.size) hb01.size (by have := hb01.size; simp; omega)); rw [HDE.out] at hr2)
      | (refine M.copy_in rfl (.tmp 11) (.tmp 12) rfl w2.heap.size 0 64 64 32 (some ⟨w1.heap.size, 0, none⟩) 32 (S.digest key) (w2.heap.size + 1) HDL.out.symm rfl rfl (List.replicate 64 (S.byteV 0)) 60 (S.Row.made _ _ _ rfl rfl) (by have h9 := M.in_row (hr2.alloc (.cells (Array.replicate 64 (S.byteV 0)) 60)) (B := w2.heap.size + 1) (by have := hr2.lt; omega) (by rw [HDL.out]; omega); rw [HDL.out] at h9; exact h9) (by rw [HDL.out]; omega) (by rw [HDL.out]; simp) ?_; intro w3 hr3 hbut3; rw [HFR.out] at hr3; have hres3 := hbut3.row (hres2.alloc _) (by have := hres2.lt; omega); have hb03 := (hb02.alloc hb02.size (.cells (Array.replicate 64 (S.byteV 0)) 60)).trans (hbut3.below (C := w.heap.size) hb02.size (by have := hb02.size; simp; omega)); clear hres2 hb02 hr2)
      | (refine wpList_load_row rfl 60 (.tmp 4) rfl w2.heap.size rfl _ R.toArray (0, 0) _ hr3 Tryd.underlying60 rfl HRi.out ?_)
      | (refine S.wpList_store_but rfl 60 (.tmp 2) (.tmp 14) rfl w.heap.size R rfl rfl _ _ hres3 HRi.out (by rw [HRl.out]; rfl) HR1.out ?_; intro w9 hr9 hbut9))
    exact bodyPost_ret (v := .agg R.toArray) (results_cell_row Tryd.results32 _ _ w.heap.size _ _ _ _ rfl hr9 Tryd.underlying60 rfl HRi.out) rfl ⟨rfl, hb03.trans (hbut9.below (Nat.le_refl _) hb03.size)⟩
  · have hs : M.short key = key := by unfold M.short; rw [if_neg (by rw [← HN.out]; exact hlt)]
    have hlti : ¬ (64 : Int) < (N : Int) := by omega
    have HFR := Lib.hid (show splice (List.replicate 64 (S.byteV 0)) 0 (key.map S.byteV) = R by rw [HR.out, M.fit_row]; unfold M.block; rw [hs])
    have hN64 : N ≤ 64 := by omega
    clear hs HSum
    go_enter Tryd.func32, Tryd.ntmps32
    go_wp2_with (first
      | (refine M.copy_in rfl (.tmp 11) (.tmp 12) rfl (w.heap.size + 1) 0 64 64 N A c key w.heap.size HN.out rfl rfl (List.replicate 64 (S.byteV 0)) 60 (S.Row.made _ _ _ (by simp) rfl) (hin0.below ((Below.refl _ _).alloc (by simp) _)) (by rw [← HN.out]; omega) (by rw [← HN.out]; simp; omega) ?_; intro w3 hr3 hbut3; rw [HFR.out] at hr3; have hres3 := hbut3.row (hres0.alloc _) (by omega); have hb03 := (hb0.alloc (by simp) (.cells (Array.replicate 64 (S.byteV 0)) 60)).trans (hbut3.below (C := w.heap.size) (by omega) (by simp; omega)); clear hres0 hb0 hin0)
      | (refine wpList_load_row rfl 60 (.tmp 4) rfl (w.heap.size + 1) rfl _ R.toArray (0, 0) _ hr3 Tryd.underlying60 rfl HRi.out ?_)
      | (refine S.wpList_store_but rfl 60 (.tmp 2) (.tmp 14) rfl w.heap.size R rfl rfl _ _ hres3 HRi.out (by rw [HRl.out]; rfl) HR1.out ?_; intro w9 hr9 hbut9))
    exact bodyPost_ret (v := .agg R.toArray) (results_cell_row Tryd.results32 _ _ w.heap.size _ _ _ _ rfl hr9 Tryd.underlying60 rfl HRi.out) rfl ⟨rfl, hb03.trans (hbut9.below (Nat.le_refl _) hb03.size)⟩
end Go.Proofs.YtgpgnfdbjljljaaDoor
