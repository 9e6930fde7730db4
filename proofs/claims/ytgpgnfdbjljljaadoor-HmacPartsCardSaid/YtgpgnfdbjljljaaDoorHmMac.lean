/- A mac in memory, and the contract of package hmac's New. -/
import Derived.Test.YtgpgnfdbjljljaaDoorHmNew
import Derived.LaidEqlPtr
namespace Go.Proofs.YtgpgnfdbjljljaaDoor
open Go.RowKit
namespace M
/-- The cells of a mac. -/
def mcells (H B : Nat) (blk : List UInt8) : List Value := .pointer (some ⟨H, 0, none⟩) :: .pointer (some ⟨B, 0, none⟩) :: blk.map S.byteV
/-- At this block lies a mac, whose hash lies at H, with this key's block, to which these bytes were written. -/
structure MacAt (w : World) (B H : Nat) (blk l : List UInt8) : Prop where
  len : blk.length = 64
  ne : H ≠ B
  row : S.Row w B 79 (mcells H B blk)
  hash : S.HashAt w H (mix 54 blk ++ l)
theorem MacAt.below {w w' : World} {B H C : Nat} {blk l : List UInt8} (h : MacAt w B H blk l) (hb : Below C w w') (hB : B < C) (hH : H < C) : MacAt w' B H blk l :=
  ⟨h.len, h.ne, h.row.below hb hB, h.hash.below hb hH⟩
theorem info_mac : (Tryd.prog.info? 79).map (·.size) = some 66 := by kernel_rfl
theorem fill_list (off : Nat) : ∀ (v : List Value) (k : Nat) (pre old post : List Value), pre.length = off + k → old.length = v.length →
    (v.zipIdx k).foldl (fun (cs : Array Value) (x : Value × Nat) => cs.setIfInBounds (off + x.2) x.1) (pre ++ old ++ post).toArray = (pre ++ v ++ post).toArray
  | [], _, pre, old, post, _, h => by
    obtain rfl := List.eq_nil_of_length_eq_zero (by simpa using h)
    simp
  | x :: v, k, pre, old, post, hp, h => by
    obtain ⟨o, old', rfl⟩ : ∃ o old', old = o :: old' := by cases old with
      | nil => simp at h
      | cons o old' => exact ⟨o, old', rfl⟩
    have e : (pre ++ o :: old' ++ post).toArray.setIfInBounds (off + k) x = ((pre ++ [x]) ++ old' ++ post).toArray := by
      rw [List.setIfInBounds_toArray, ← hp]
      simp
    rw [List.zipIdx_cons, List.foldl_cons, e, fill_list off v (k + 1) (pre ++ [x]) old' post (by simp; omega) (by simpa using h)]
    simp
theorem fill_one (place : Nat → Option (Nat × Nat)) (i off : Nat) (v : List Value) (pre old post : List Value) (hpl : place i = some (off, v.length)) (hp : pre.length = off) (ho : old.length = v.length) :
    Instr.fill place (pre ++ old ++ post).toArray [(i, .agg v.toArray)] = some (pre ++ v ++ post).toArray := by
  have h1 := fill_list off v 0 pre old post (by omega) ho
  have hsz : ¬ (v.length ≠ v.length || decide ((pre ++ old ++ post).toArray.size < off + v.length)) = true := by simp; omega
  unfold Instr.fill
  rw [hpl]
  simp only [Value.cells, List.size_toArray]
  rw [if_neg (by simpa using hsz)]
  unfold Instr.fill
  rw [← Array.foldl_toList, Array.toList_zipIdx]
  exact congrArg some h1
theorem mac_zero : (Tryd.prog.info? 79).map (fun i => i.zero) = some (some (Value.agg ([Value.pointer none, Value.pointer none] ++ List.replicate 64 (S.byteV 0) ++ []).toArray)) := by kernel_rfl
theorem built_struct {P : Program} {t : TypeId} {fields : Array Field} {z : Value} {places : List (Nat × Nat)} (h1 : (P.info? t).map (fun i => i.zero) = some (some z)) (h2 : P.underlying t = some (.struct fields))
    (h4 : (fields.toList.mapM fun f => (P.info? f.type).map fun i => (f.offset, i.size)) = some places) (parts : List (Nat × Value)) : P.built t parts = Instr.fill (places.toArray[·]?) z.cells parts := by
  cases hi : P.info? t with
  | none => rw [hi] at h1; cases h1
  | some it =>
    rw [hi] at h1
    have h3 : it.zero = some z := by simpa using h1
    unfold Program.built
    rw [hi, h2]
    simp only [h3, h4]
theorem mac_built (a : Array Value) (h : a.size = 64) : Tryd.prog.built 79 [(2, .agg a)] = some (.pointer none :: .pointer none :: a.toList).toArray := by
  rw [built_struct mac_zero Tryd.underlying79 (places := [(0, 1), (1, 1), (2, 64)]) (by kernel_rfl)]
  have := fill_one (fun i => (#[(0, 1), (1, 1), (2, 64)] : Array (Nat × Nat))[i]?) 2 2 a.toList [.pointer none, .pointer none] (List.replicate 64 (S.byteV 0)) [] (by simp [h]) rfl (by simp [h])
  rw [Array.toArray_toList] at this
  exact this.trans (by simp)
theorem mcells_len {H B : Nat} {blk : List UInt8} (h : blk.length = 64) : (mcells H B blk).length = 66 := by simp [mcells, h]
theorem mcells_blk {H B : Nat} {blk : List UInt8} {j : Nat} {v : Value} (h : (blk.map S.byteV)[j]? = some v) : (mcells H B blk)[2 + j]? = some v := by
  rw [Nat.add_comm]; exact h
theorem MacAt.at0 {w : World} {B H : Nat} {blk l : List UInt8} (h : MacAt w B H blk l) : w.cell? ⟨B, 0, none⟩ = some (.pointer (some ⟨H, 0, none⟩)) := h.row.cell rfl
theorem MacAt.at1 {w : World} {B H : Nat} {blk l : List UInt8} (h : MacAt w B H blk l) : w.cell? ⟨B, 1, none⟩ = some (.pointer (some ⟨B, 0, none⟩)) := h.row.cell rfl
theorem MacAt.blk {w : World} {B H : Nat} {blk l : List UInt8} (h : MacAt w B H blk l) : ∀ j v, (blk.map S.byteV).toArray.toList[j]? = some v → w.cell? ⟨B, 2 + j, none⟩ = some v := fun _ _ hj => h.row.cell (mcells_blk hj)
end M
set_option maxRecDepth 100000 in
set_option maxHeartbeats 1000000 in
theorem MNew_any (A : Option Addr) (c : Nat) (key : List UInt8) (w : World) (hK : S.SLaid w) (hin : BytesIn w w.heap.size A c key) (hlen : key.length ≤ 1000000) :
    Calls Tryd.prog 40 #[.slice A key.length c] w fun e w' => ∃ B H, e = .returned (.pointer (some ⟨B, 0, none⟩)) ∧ M.MacAt w' B H (M.block key) [] ∧ Below w.heap.size w w' ∧ w.heap.size ≤ B ∧ w.heap.size ≤ H := by
  have h2 := hK.lt.1
  have HK := Lib.hid hK
  have HBl := Lib.hid (KBlock_any A c key w hK hin hlen)
  have HIn := Lib.hid (fun w hw => inner_any (M.block key) (M.block_len key) w hw)
  obtain ⟨N, HN⟩ : ∃ N, Hid (N = key.length) := ⟨_, Lib.hid rfl⟩
  rw [← HN.out] at HBl ⊢
  obtain ⟨K, HKk⟩ : ∃ K, Hid (K = M.block key) := ⟨_, Lib.hid rfl⟩
  have HKl := Lib.hid (show K.length = 64 by rw [HKk.out, M.block_len])
  rw [← HKk.out] at HBl HIn ⊢
  have HKi := Lib.hid (show (Tryd.prog.info? 60).map (·.size) = some (K.map S.byteV).toArray.size by rw [S.info_blk]; simp [HKl.out])
  have HMB := Lib.hid (M.mac_built (K.map S.byteV).toArray (by simp [HKl.out]))
  clear hK hin hlen
  go_enter Tryd.func40, Tryd.ntmps40
  go_wp2_with fail
  refine HBl.out.mono ?_
  rintro e w1 ⟨rfl, hb1⟩
  have hz1 := hb1.size
  have HB1 := Lib.hid hb1
  clear hb1
  have hrow1 : S.Row (w1.alloc (.cells (.pointer none :: .pointer (some ⟨w1.heap.size, 0, none⟩) :: K.map S.byteV).toArray 79)) w1.heap.size 79 (.pointer none :: .pointer (some ⟨w1.heap.size, 0, none⟩) :: K.map S.byteV) := S.Row.made _ _ _ rfl rfl
  have HB2 := Lib.hid (HB1.out.alloc HB1.out.size (.cells (.pointer none :: .pointer (some ⟨w1.heap.size, 0, none⟩) :: K.map S.byteV).toArray 79))
  go_wp2_with (first
    | (refine M.wpList_build_one rfl 79 2 (.tmp 5) rfl _ rfl _ HMB.out ?_)
    | (refine S.wpList_load_part rfl 60 (.tmp 15) rfl w1.heap.size 2 rfl (K.map S.byteV).toArray _ (fun j v hj => hrow1.cell (by rw [Nat.add_comm]; exact hj)) Tryd.underlying60 rfl HKi.out ?_))
  refine (HIn.out _ (HK.out.below HB2.out (by omega))).mono ?_
  rintro e w2 ⟨H, rfl, hh2, hb2, hH⟩
  have hrow2 := hrow1.below hb2 hrow1.lt
  have hHB : H ≠ w1.heap.size := by have := hH; simp at this; omega
  have HB3 := Lib.hid (HB2.out.trans (hb2.mono HB2.out.size))
  have HHl := Lib.hid (show w.heap.size ≤ H from Nat.le_trans HB2.out.size hH)
  clear hb2 hrow1 hH
  have c0 := hrow2.cell (j := 0) (v := .pointer none) rfl
  have f0 := hrow2.frozen 0
  have hrow3 := hrow2.set 0 (.pointer (some ⟨H, 0, none⟩))
  have hh3 := (((S.But.refl w1.heap.size w2).setCell 0 none (.pointer (some ⟨H, 0, none⟩)))).hash hh2 hHB
  have HB4 := Lib.hid (HB3.out.setCell (p := ⟨w1.heap.size, 0, none⟩) HB1.out.size (.pointer (some ⟨H, 0, none⟩)))
  clear hrow2 hh2
  go_wp2_with fail
  go_ret
  exact ⟨w1.heap.size, H, rfl, ⟨HKl.out, hHB, hrow3, by rw [List.append_nil]; exact hh3⟩, HB4.out, hz1, HHl.out⟩
end Go.Proofs.YtgpgnfdbjljljaaDoor
