/- The contract of the reference's Split. -/
import Derived.Test.YtbjfpmklmhgbdaaDoorWordsRScan
import Derived.Test.YtbjfpmklmhgbdaaDoorWordsSplit2
namespace Go.Proofs.YtbjfpmklmhgbdaaDoor
open Go.RowKit Go.Shelf
theorem info_fieldR : (Tryd.prog.info? 45).map (fun i => (i.zero, i.size, i.bytes)) = some (some (.agg #[.string ⟨#[]⟩, .bool false]), 2, 24) := by kernel_rfl

theorem fCells_snoc (fs : List FV) (f : FV) : fCells fs ++ [.string ⟨f.1.toArray⟩, .bool f.2] = fCells (fs ++ [f]) := by simp [fCells]
theorem lit_row1 (w3 : World) (cs : Array Value) (j : Nat) : (w3.alloc (.cells cs 45)).cell? ⟨w3.heap.size, j, none⟩ = cs[j]? :=
  cell_of_row _ w3.heap.size j cs 45 (0, 0) (World.alloc_heap_new w3 _)
theorem own_other {W1 W2 : World} {row : Option Nat} {base : Nat} {e : TypeId} {size : Nat} {v : Value} {n : Nat} {xs : List Value} (h : W1.ownsRow base e size v n xs) (hg : W1.grownBy W2 row) (hr : ∀ r, v.ownBlock = some r → some r ≠ row) : W2.ownsRow base e size v n xs := by
  refine h.kept hg ?_
  cases hv : v.ownBlock with
  | none => exact Or.inl rfl
  | some g => exact Or.inr (hr g hv)
theorem W.rest_badE {l r : List UInt8} {fs0 : List FV} (h : W.Rest l fs0 r) (hb : ∃ s q n, W.FRead r s q n ∧ W.badAt r n) : W.LineF l fs0 false := by
  obtain ⟨s, q, n, h1, h2⟩ := hb
  exact W.rest_bad h h1 h2
theorem lit_row (w1 : World) (o : Obj) (cs : Array Value) (j : Nat) : ((w1.alloc o).alloc (.cells cs 45)).cell? ⟨w1.heap.size + 1, j, none⟩ = cs[j]? := by
  have h := World.alloc_heap_new (w1.alloc o) (.cells cs 45)
  rw [World.size_alloc] at h
  exact cell_of_row ((w1.alloc o).alloc (.cells cs 45)) (w1.heap.size + 1) j cs 45 (0, 0) h

theorem W.any_snoc {fs : List FV} {b : List UInt8} {q lg : Bool} (h : (fs.any fun f => decide (2000 < f.1.length)) = lg) : ((fs ++ [(b, q)]).any fun f => decide (2000 < f.1.length)) = (lg || decide (2000 < (b.length : Int))) := by
  rw [List.any_append, h]
  have e1 : decide (2000 < (b.length : Int)) = decide (2000 < b.length) := by rw [Bool.eq_iff_iff, decide_eq_true_iff, decide_eq_true_iff]; omega
  rw [e1]
  simp
theorem W.longF_snoc {fs : List FV} {b : List UInt8} {q lg : Bool} (h : (fs.any fun f => decide (2000 < f.1.length)) = lg) : W.longF (fs ++ [(b, q)]) = (lg || decide (2000 < (b.length : Int)) || decide (64 < (fs.length : Int) + 1)) := by
  unfold W.longF
  rw [List.any_append, h, List.length_append]
  have e1 : decide (2000 < (b.length : Int)) = decide (2000 < b.length) := by rw [Bool.eq_iff_iff, decide_eq_true_iff, decide_eq_true_iff]; omega
  have e2 : decide (64 < (fs.length : Int) + 1) = decide (64 < fs.length + [(b, q)].length) := by rw [Bool.eq_iff_iff, decide_eq_true_iff, decide_eq_true_iff]; simp; omega
  rw [e1, e2]
  simp
/-- What the reference's Split returns. -/
def RSP (l : List UInt8) (w : World) (e : Ending) (w' : World) : Prop := ∃ v fs x, e = .returned (.tuple #[v, .int .i64 x]) ∧ Fields w' w.heap.size v fs ∧ (∃ fs' ok, W.LineF l fs' ok ∧ ((ok = false ∧ fs = [] ∧ x = 6) ∨ (ok = true ∧ W.longF fs' = true ∧ fs = [] ∧ x = 3) ∨ (ok = true ∧ W.longF fs' = false ∧ fs = fs' ∧ x = 0))) ∧ Below w.heap.size w w'
theorem RSP.ok {l : List UInt8} {w w' : World} {v : Value} {fs : List FV} (h : W.longF fs = false) (ho : w'.ownsRow w.heap.size 45 2 v fs.length (fCells fs)) (hl : W.LineF l fs true) (hb : Below w.heap.size w w') : RSP l w (.returned (.tuple #[v, .int .i64 0])) w' :=
  ⟨v, fs, 0, rfl, ho, ⟨fs, true, hl, Or.inr (Or.inr ⟨rfl, h, rfl, rfl⟩)⟩, hb⟩
theorem RSP.long {l : List UInt8} {w w' : World} {fs : List FV} (h : W.longF fs = true) (hl : W.LineF l fs true) (hb : Below w.heap.size w w') : RSP l w (.returned (.tuple #[.slice none 0 0, .int .i64 3])) w' :=
  ⟨_, [], 3, rfl, World.ownsRow_nil _ _ _ _, ⟨fs, true, hl, Or.inr (Or.inl ⟨rfl, h, rfl, rfl⟩)⟩, hb⟩
theorem RSP.bad {l : List UInt8} {w w' : World} {fs : List FV} (hl : W.LineF l fs false) (hb : Below w.heap.size w w') : RSP l w (.returned (.tuple #[.slice none 0 0, .int .i64 6])) w' :=
  ⟨_, [], 6, rfl, World.ownsRow_nil _ _ _ _, ⟨fs, false, hl, Or.inl ⟨rfl, rfl, rfl⟩⟩, hb⟩
theorem W.drop_byte {s : ByteArray} {k n m : Nat} (hm : k + n = m) (h : m < s.size) : (s.data.toList.drop k).getD n 0 = s[m]'h := by
  rw [List.getD_eq_getElem?_getD, List.getElem?_drop, hm, W.get_list s m h, List.getElem?_eq_getElem h]
  rfl
theorem W.byte32 {c : UInt8} (h : ((c.toNat : Int) != 32) = false) : c = 32 := by
  have h1 : (c.toNat : Int) = 32 := by simpa using h
  exact UInt8.toNat_inj.1 (by rw [show (32 : UInt8).toNat = 32 from rfl]; omega)
theorem W.not_bad_end {r : List UInt8} {n : Nat} (h : n ≠ 0) (he : n = r.length) : ¬ W.badAt r n := by
  rintro (e | ⟨e, _⟩)
  · exact h e
  · omega

set_option maxRecDepth 100000 in
set_option maxHeartbeats 4000000 in
theorem RSplit_mid (s : ByteArray) (w : World) (hs : s.size ≤ 8192) (h0 : 0 < s.size) :
    Calls Tryd.prog 22 #[.string s] w fun e w' => RSP s.data.toList w e w' := by
  have hne : s.toList.isEmpty = false := by
    rw [ByteArray.toList_eq]
    cases hd : s.data.toList with
    | nil => have hl : s.data.toList.length = s.size := rfl; rw [hd] at hl; simp at hl; omega
    | cons c r => rfl
  have h8 : decide (8192 < (s.size : Int)) = false := decide_eq_false (by omega)
  have hsl : s.data.toList.length = s.size := rfl
  have Hsl := Lib.hid hsl
  clear hsl
  obtain ⟨i0, hi, hz0, hz1, hz2⟩ := info_parts info_fieldR
  go_enter Tryd.func22, Tryd.ntmps22
  go_wp2_with fail
  go_loopw [4, 5, 6] (fun v lg c wr => ∃ (k : Nat) (fs0 : List FV), k ≤ s.size ∧ c = .int .i64 k ∧ lg = .bool (fs0.any fun f => decide (2000 < f.1.length)) ∧ fs0.length ≤ k ∧ W.Rest s.data.toList fs0 (s.data.toList.drop k) ∧ wr.ownsRow w.heap.size 45 2 v fs0.length (fCells fs0) ∧ Below w.heap.size w wr) (fun _ _ c _ => s.size + 1 - (intOf c).toNat)
  case atStart => exact ⟨0, [], Nat.zero_le _, rfl, rfl, Nat.le_refl _, W.rest_start (by intro e; have hl := Hsl.out; rw [e] at hl; simp at hl; omega), World.ownsRow_nil _ _ _ _, Below.refl _ _⟩
  case round =>
    obtain ⟨k, fs0, hk, rfl, rfl, hlen, hrest, hown, hbel⟩ := hrel
    have Hrest := Lib.hid hrest
    have hsx : (s.extract k s.size).data.toList = s.data.toList.drop k := by
      rw [Lib.extract_data]; exact List.take_of_length_le (by rw [List.length_drop]; show s.data.size - k ≤ s.size - k; exact Nat.le_refl _)
    have Hsx := Lib.hid hsx
    have hq := quoted_any (s.extract k s.size)
    have Hq := Lib.hid hq
    obtain ⟨lg, hlg⟩ : ∃ lg, (fs0.any fun f => decide (2000 < f.1.length)) = lg := ⟨_, rfl⟩
    rw [hlg]
    have Hlg := Lib.hid hlg
    clear hrest hsx hq hlg
    go_wp2_with fail
    refine (Hq.out _ (by rw [ByteArray.size_extract]; omega)).mono ?_
    rintro e w1 ⟨b, n, rfl, hrd, hb1⟩
    have hbel1 := bt hbel hb1
    have hown1 := own_below hown hb1
    rw [Hsx.out] at hrd
    have Hrd := Lib.hid hrd
    clear hrd hown
    by_cases hn : n = 0
    · subst hn
      have hsz1 := hbel1.size
      go_wp2_with fail
      obtain ⟨w2, hw2⟩ : ∃ w2, w2 = w1.alloc (.cells #[.string ⟨b.toArray⟩, .bool true] 45) := ⟨_, rfl⟩
      have hf2 : w2.heap[w1.heap.size]? = some (.cells #[.string ⟨b.toArray⟩, .bool true] 45 (0, 0)) := by rw [hw2]; exact World.alloc_heap_new w1 _
      have hs2 : w2.heap.size = w1.heap.size + 1 := by rw [hw2]; simp
      have hbel2 : Below w.heap.size w w2 := by rw [hw2]; exact hbel1.alloc hsz1 _
      have hown2 : w2.ownsRow w.heap.size 45 2 u4 fs0.length (fCells fs0) := by rw [hw2]; exact hown1.alloc _
      have hrow : ∀ r, u4.ownBlock = some r → w.heap.size ≤ r ∧ r < w1.heap.size := fun r e => hown1.lt r e
      rw [← hw2]
      clear hw2 hown1
      go_loop [8] (fun c => ∃ j : Nat, W.Scan (s.data.toList.drop k) j ∧ c = .int .i64 j) (fun c => s.size - (intOf c).toNat)
      case atStart => exact ⟨0, W.scan_zero _, rfl⟩
      case round =>
        obtain ⟨j, hsc, rfl⟩ := hrel
        obtain ⟨m, hm⟩ : ∃ m, k + j = m := ⟨_, rfl⟩
        have hmi : (k : Int) + (j : Int) = (m : Int) := by omega
        have Hm := Lib.hid hm
        have Hsc := Lib.hid hsc
        have hms : m ≤ s.size := by have := hsc.1; rw [List.length_drop, Hsl.out] at this; omega
        clear hsc hm
        by_cases hlt : m < s.size
        · have hby := W.drop_byte Hm.out hlt
          have Hby := Lib.hid hby
          clear hby
          by_cases h32 : (((s[m]'hlt).toNat : Int) != 32) = true
          · go_wp2_with fail
            go_round
            case rel => exact ⟨j + 1, W.scan_step Hsc.out (by rw [List.length_drop, Hsl.out]; have := Hm.out; omega) (by rw [Hby.out]; intro e; rw [e] at h32; exact absurd h32 (by decide)), by go_num⟩
            case measure => simp [intOf]; omega
          · have h32' : (((s[m]'hlt).toNat : Int) != 32) = false := by simpa using h32
            have hend : j = (s.data.toList.drop k).length ∨ (s.data.toList.drop k).getD j 0 = 32 := Or.inr (by rw [Hby.out]; exact W.byte32 h32')
            have Hend := Lib.hid hend
            clear hend h32
            have hc0 : w2.cell? ⟨w1.heap.size, 0, none⟩ = some (.string ⟨b.toArray⟩) := by simp [World.cell?, hf2]
            have hc1 : w2.cell? ⟨w1.heap.size, 1, none⟩ = some (.bool true) := by simp [World.cell?, hf2]
            have hz0' : w2.frozen? ⟨w1.heap.size, 0, none⟩ = false := by simp [World.frozen?, hf2]
            have hz1' : w2.frozen? ⟨w1.heap.size, 1, none⟩ = false := by simp [World.frozen?, hf2]
            have hsm : (s.extract k m).size ≤ maxLen := by rw [ByteArray.size_extract]; unfold maxLen; omega
            have hex : (s.extract k m).data.toList = (s.data.toList.drop k).take j := by rw [Lib.extract_data, show m - k = j from by have := Hm.out; omega]
            go_wp2_with fail
            obtain ⟨w3, hw3⟩ : ∃ w3, w3 = (w2.setCell ⟨w1.heap.size, 0, none⟩ (.string (s.extract k m))).setCell ⟨w1.heap.size, 1, none⟩ (.bool false) := ⟨_, rfl⟩
            have hf3 : w3.heap[w1.heap.size]? = some (.cells #[.string (s.extract k m), .bool false] 45 (0, 0)) := by
              rw [hw3]; exact setCell_block _ (setCell_block _ hf2)
            have hbel3 : Below w.heap.size w w3 := by
              rw [hw3]; exact (hbel2.setCell (p := ⟨w1.heap.size, 0, none⟩) hsz1 _).setCell (p := ⟨w1.heap.size, 1, none⟩) hsz1 _
            have hs3 : w3.heap.size = w1.heap.size + 1 := by rw [hw3]; simp [hs2]
            have Hs3 := Lib.hid hs3
            clear hs3
            have hown3 : w3.ownsRow w.heap.size 45 2 u4 fs0.length (fCells fs0) := by
              rw [hw3]
              exact own_other (own_other hown2 (grown_setCell _ _ _ _) (fun r e => by have := hrow r e; intro e2; have := Option.some.inj e2; omega)) (grown_setCell _ _ _ _) (fun r e => by have := hrow r e; intro e2; have := Option.some.inj e2; omega)
            rw [← hw3]
            have hwp : ∀ r, u4.ownBlock = some r → w.heap.size ≤ r ∧ r < w1.heap.size := hrow
            clear hw3 hown2 hf2 hc0 hc1 hz0' hz1' hbel2 hs2
            obtain ⟨t, ht⟩ : ∃ t : List UInt8, t = (s.data.toList.drop k).take j := ⟨_, rfl⟩
            have hst : s.extract k m = ⟨t.toArray⟩ := by rw [ht, ← hex]
            rw [← ht] at hex
            have Hex := Lib.hid hex
            have Ht := Lib.hid ht
            clear hex ht
            have hfc3 : w3.cell? ⟨w1.heap.size, 0, none⟩ = some (.string ⟨t.toArray⟩) := by rw [← hst]; simp [World.cell?, hf3]
            have hfc4 : w3.cell? ⟨w1.heap.size, 1, none⟩ = some (.bool false) := by simp [World.cell?, hf3]
            rw [hst] at hf3 hsm ⊢
            clear hst
            refine (RBare_any ⟨t.toArray⟩ w3 hsm).mono ?_
            rintro e w4 ⟨rfl, rfl⟩
            obtain ⟨bo, hbo⟩ : ∃ bo, W.bareOk t = bo := ⟨_, rfl⟩
            rw [show (⟨t.toArray⟩ : ByteArray).data.toList = t from rfl, hbo]
            cases bo
            · have hbad := W.rest_badE Hrest.out (W.scan_bad Hsc.out Hend.out (by rw [← Ht.out]; exact hbo) Hrd.out)
              have Hbad := Lib.hid hbad
              clear hbad
              go_wp2_with fail
              go_ret2
              exact RSP.bad Hbad.out hbel3
            · have hgood := W.scan_good Hsc.out Hend.out (by rw [← Ht.out]; exact hbo)
              rw [← Ht.out] at hgood
              have Hfr := Lib.hid hgood.1
              have Hgood := Lib.hid hgood.2
              have hj0 : j ≠ 0 := fun e => hgood.2 (Or.inl e)
              clear hgood hbo
              go_wp2_with (first | (at_builtin; refine wpList_append_own _ rfl _ _ 32 rfl w.heap.size 45 i0 _ 2 24 Tryd.underlying32 hi hz0 hz1 hz2 rfl (by decide) _ _ _ rfl (hown3.alloc _) ⟨w3.heap.size, 0, none⟩ 1 1 [.string ⟨t.toArray⟩, .bool false] rfl rfl ?c1 ?c2 ?c3 ?c4 ?c5 ?_))
              case c1 =>
                intro j x hj
                match j, hj with
                | 0, hj => exact (lit_row1 w3 _ 0).trans hj
                | 1, hj => exact (lit_row1 w3 _ 1).trans hj
              case c2 => intro x hx; simp at hx; rcases hx with rfl | rfl <;> rfl
              case c3 => unfold maxLen; omega
              case c4 => omega
              case c5 => (have := hbel3.size; simp; omega)
              · intro v' W2 hown' hgrow _
                obtain ⟨g', cap', rfl⟩ := ownsRow_succ hown'
                have hf2 : W2.heap[w1.heap.size]? = some (.cells #[.string ⟨t.toArray⟩, .bool false] 45 (0, 0)) :=
                  grown_at hgrow ((Below.heap_alloc _ _ _ (by have := Hs3.out; omega)).trans hf3) (fun e => by have := hwp _ e.symm; omega)
                have hfc : W2.cell? ⟨w1.heap.size, 0, none⟩ = some (.string ⟨t.toArray⟩) := by simp [World.cell?, hf2]
                have hbel2 : Below w.heap.size w W2 := (hbel3.alloc hbel3.size _).grown hgrow (by have := hbel3.size; simp; omega) (fun k e => (hwp k e).1)
                have Hown := Lib.hid hown'
                clear hown' hgrow hf2 hown3 hf3 hfc3 hfc4
                have hlong : W.longF (fs0 ++ [(t, false)]) = (lg || decide (2000 < (t.length : Int)) || decide (64 < (fs0.length : Int) + 1)) := W.longF_snoc Hlg.out
                have Hlong := Lib.hid hlong
                clear hlong
                have hany : ((fs0 ++ [(t, false)]).any fun f => decide (2000 < f.1.length)) = (lg || decide (2000 < (t.length : Int))) := W.any_snoc Hlg.out
                have Hany := Lib.hid hany
                have hown3 : W2.ownsRow w.heap.size 45 2 (.slice (some ⟨g', 0, none⟩) (fs0.length + 1) cap') (fs0 ++ [(t, false)]).length (fCells (fs0 ++ [(t, false)])) := by
                  rw [List.length_append, ← fCells_snoc]; exact Hown.out
                have Hown3 := Lib.hid hown3
                have hkm : k < m := by have := Hm.out; omega
                clear hany hown3
                have hb0 : ((m : Int) == (s.size : Int)) = false := by rw [beq_eq_false_iff_ne]; omega
                have hnext := W.rest_next Hrest.out Hfr.out Hgood.out (by rw [List.length_drop, Hsl.out]; have := Hm.out; omega)
                rw [List.drop_drop, show k + (j + 1) = m + 1 from by have := Hm.out; omega] at hnext
                have Hnext := Lib.hid hnext
                have hmw : IntKind.i64.wrap ((m : Int) + 1) = (m : Int) + 1 := IntWalk.i64_in _ (by omega)
                clear hnext
                cases lg <;> by_cases hbl : (2000 : Int) < (t.length : Int)
                all_goals
                  go_wp2_with fail
                  go_roundw
                  case rel => exact ⟨m + 1, fs0 ++ [(t, false)], by omega, by go_num, by rw [Hany.out]; simp [hbl], by simp; omega, Hnext.out, Hown3.out, hbel2⟩
                  case measure => simp [intOf]; omega
        · have hend : j = (s.data.toList.drop k).length ∨ (s.data.toList.drop k).getD j 0 = 32 := Or.inl (by rw [List.length_drop, Hsl.out]; have := Hm.out; omega)
          have Hend := Lib.hid hend
          clear hend
          have hc0 : w2.cell? ⟨w1.heap.size, 0, none⟩ = some (.string ⟨b.toArray⟩) := by simp [World.cell?, hf2]
          have hc1 : w2.cell? ⟨w1.heap.size, 1, none⟩ = some (.bool true) := by simp [World.cell?, hf2]
          have hz0' : w2.frozen? ⟨w1.heap.size, 0, none⟩ = false := by simp [World.frozen?, hf2]
          have hz1' : w2.frozen? ⟨w1.heap.size, 1, none⟩ = false := by simp [World.frozen?, hf2]
          have hsm : (s.extract k m).size ≤ maxLen := by rw [ByteArray.size_extract]; unfold maxLen; omega
          have hex : (s.extract k m).data.toList = (s.data.toList.drop k).take j := by rw [Lib.extract_data, show m - k = j from by have := Hm.out; omega]
          go_wp2_with fail
          obtain ⟨w3, hw3⟩ : ∃ w3, w3 = (w2.setCell ⟨w1.heap.size, 0, none⟩ (.string (s.extract k m))).setCell ⟨w1.heap.size, 1, none⟩ (.bool false) := ⟨_, rfl⟩
          have hf3 : w3.heap[w1.heap.size]? = some (.cells #[.string (s.extract k m), .bool false] 45 (0, 0)) := by
            rw [hw3]; exact setCell_block _ (setCell_block _ hf2)
          have hbel3 : Below w.heap.size w w3 := by
            rw [hw3]; exact (hbel2.setCell (p := ⟨w1.heap.size, 0, none⟩) hsz1 _).setCell (p := ⟨w1.heap.size, 1, none⟩) hsz1 _
          have hs3 : w3.heap.size = w1.heap.size + 1 := by rw [hw3]; simp [hs2]
          have Hs3 := Lib.hid hs3
          clear hs3
          have hown3 : w3.ownsRow w.heap.size 45 2 u4 fs0.length (fCells fs0) := by
            rw [hw3]
            exact own_other (own_other hown2 (grown_setCell _ _ _ _) (fun r e => by have := hrow r e; intro e2; have := Option.some.inj e2; omega)) (grown_setCell _ _ _ _) (fun r e => by have := hrow r e; intro e2; have := Option.some.inj e2; omega)
          rw [← hw3]
          have hwp : ∀ r, u4.ownBlock = some r → w.heap.size ≤ r ∧ r < w1.heap.size := hrow
          clear hw3 hown2 hf2 hc0 hc1 hz0' hz1' hbel2 hs2
          obtain ⟨t, ht⟩ : ∃ t : List UInt8, t = (s.data.toList.drop k).take j := ⟨_, rfl⟩
          have hst : s.extract k m = ⟨t.toArray⟩ := by rw [ht, ← hex]
          rw [← ht] at hex
          have Hex := Lib.hid hex
          have Ht := Lib.hid ht
          clear hex ht
          have hfc3 : w3.cell? ⟨w1.heap.size, 0, none⟩ = some (.string ⟨t.toArray⟩) := by rw [← hst]; simp [World.cell?, hf3]
          have hfc4 : w3.cell? ⟨w1.heap.size, 1, none⟩ = some (.bool false) := by simp [World.cell?, hf3]
          rw [hst] at hf3 hsm ⊢
          clear hst
          refine (RBare_any ⟨t.toArray⟩ w3 hsm).mono ?_
          rintro e w4 ⟨rfl, rfl⟩
          obtain ⟨bo, hbo⟩ : ∃ bo, W.bareOk t = bo := ⟨_, rfl⟩
          rw [show (⟨t.toArray⟩ : ByteArray).data.toList = t from rfl, hbo]
          cases bo
          · have hbad := W.rest_badE Hrest.out (W.scan_bad Hsc.out Hend.out (by rw [← Ht.out]; exact hbo) Hrd.out)
            have Hbad := Lib.hid hbad
            clear hbad
            go_wp2_with fail
            go_ret2
            exact RSP.bad Hbad.out hbel3
          · have hgood := W.scan_good Hsc.out Hend.out (by rw [← Ht.out]; exact hbo)
            rw [← Ht.out] at hgood
            have Hfr := Lib.hid hgood.1
            have Hgood := Lib.hid hgood.2
            have hj0 : j ≠ 0 := fun e => hgood.2 (Or.inl e)
            clear hgood hbo
            go_wp2_with (first | (at_builtin; refine wpList_append_own _ rfl _ _ 32 rfl w.heap.size 45 i0 _ 2 24 Tryd.underlying32 hi hz0 hz1 hz2 rfl (by decide) _ _ _ rfl (hown3.alloc _) ⟨w3.heap.size, 0, none⟩ 1 1 [.string ⟨t.toArray⟩, .bool false] rfl rfl ?c1 ?c2 ?c3 ?c4 ?c5 ?_))
            case c1 =>
              intro j x hj
              match j, hj with
              | 0, hj => exact (lit_row1 w3 _ 0).trans hj
              | 1, hj => exact (lit_row1 w3 _ 1).trans hj
            case c2 => intro x hx; simp at hx; rcases hx with rfl | rfl <;> rfl
            case c3 => unfold maxLen; omega
            case c4 => omega
            case c5 => (have := hbel3.size; simp; omega)
            · intro v' W2 hown' hgrow _
              obtain ⟨g', cap', rfl⟩ := ownsRow_succ hown'
              have hf2 : W2.heap[w1.heap.size]? = some (.cells #[.string ⟨t.toArray⟩, .bool false] 45 (0, 0)) :=
                grown_at hgrow ((Below.heap_alloc _ _ _ (by have := Hs3.out; omega)).trans hf3) (fun e => by have := hwp _ e.symm; omega)
              have hfc : W2.cell? ⟨w1.heap.size, 0, none⟩ = some (.string ⟨t.toArray⟩) := by simp [World.cell?, hf2]
              have hbel2 : Below w.heap.size w W2 := (hbel3.alloc hbel3.size _).grown hgrow (by have := hbel3.size; simp; omega) (fun k e => (hwp k e).1)
              have Hown := Lib.hid hown'
              clear hown' hgrow hf2 hown3 hf3 hfc3 hfc4
              have hlong : W.longF (fs0 ++ [(t, false)]) = (lg || decide (2000 < (t.length : Int)) || decide (64 < (fs0.length : Int) + 1)) := W.longF_snoc Hlg.out
              have Hlong := Lib.hid hlong
              clear hlong
              have hany : ((fs0 ++ [(t, false)]).any fun f => decide (2000 < f.1.length)) = (lg || decide (2000 < (t.length : Int))) := W.any_snoc Hlg.out
              have Hany := Lib.hid hany
              have hown3 : W2.ownsRow w.heap.size 45 2 (.slice (some ⟨g', 0, none⟩) (fs0.length + 1) cap') (fs0 ++ [(t, false)]).length (fCells (fs0 ++ [(t, false)])) := by
                rw [List.length_append, ← fCells_snoc]; exact Hown.out
              have Hown3 := Lib.hid hown3
              have hkm : k < m := by have := Hm.out; omega
              clear hany hown3
              have hb0 : ((m : Int) == (s.size : Int)) = true := by rw [beq_iff_eq]; omega
              have hline := W.rest_end Hrest.out Hfr.out Hgood.out (by rw [List.length_drop, Hsl.out]; have := Hm.out; omega)
              have Hline := Lib.hid hline
              clear hline
              cases lg <;> by_cases hbl : (2000 : Int) < (t.length : Int) <;> by_cases h64 : (64 : Int) < (fs0.length : Int) + 1
              all_goals
                go_wp2_with fail
                go_ret2
                first
                  | exact RSP.ok (by rw [Hlong.out]; simp [hbl, h64]; done) Hown3.out Hline.out hbel2
                  | exact RSP.long (by rw [Hlong.out]; simp [hbl, h64]; done) Hline.out hbel2
    · have hn0 : ((n : Int) == 0) = false := by rw [beq_eq_false_iff_ne]; omega
      have hfr := W.reads_quoted Hrd.out hn
      have hle := W.fread_le hfr
      rw [List.length_drop, Hsl.out] at hle
      have Hfr := Lib.hid hfr
      have hsz1 := hbel1.size
      clear hfr
      go_wp2_with (first | (at_builtin; refine wpList_append_own _ rfl _ _ 32 rfl w.heap.size 45 i0 _ 2 24 Tryd.underlying32 hi hz0 hz1 hz2 rfl (by decide) _ _ _ rfl ((hown1.alloc _).alloc _) ⟨w1.heap.size + 1, 0, none⟩ 1 1 [.string ⟨b.toArray⟩, .bool true] rfl rfl ?c1 ?c2 ?c3 ?c4 ?c5 ?_))
      case c1 =>
        intro j x hj
        match j, hj with
        | 0, hj => exact (lit_row w1 _ _ 0).trans hj
        | 1, hj => exact (lit_row w1 _ _ 1).trans hj
      case c2 => intro x hx; simp at hx; rcases hx with rfl | rfl <;> rfl
      case c3 => unfold maxLen; omega
      case c4 => omega
      case c5 => first | omega | (simp; omega)
      · intro v' W2 hown' hgrow _
        obtain ⟨g', cap', rfl⟩ := ownsRow_succ hown'
        have hrow : ∀ r, u4.ownBlock = some r → w.heap.size ≤ r ∧ r < w1.heap.size := fun r e => hown1.lt r e
        have hf2 : W2.heap[w1.heap.size]? = some (.cells #[.string ⟨b.toArray⟩, .bool true] 45 (0, 0)) :=
          grown_at hgrow ((Below.heap_alloc _ _ _ (by simp)).trans (World.alloc_heap_new w1 _)) (fun e => by have := hrow _ e.symm; omega)
        have hfc : W2.cell? ⟨w1.heap.size, 0, none⟩ = some (.string ⟨b.toArray⟩) := by simp [World.cell?, hf2]
        have hbel2 : Below w.heap.size w W2 := ((hbel1.alloc hsz1 _).alloc (by simp; omega) _).grown hgrow (by simp; omega) (fun k e => (hrow k e).1)
        have Hown := Lib.hid hown'
        clear hown' hgrow hf2 hown1
        obtain ⟨m, hm⟩ : ∃ m, k + n = m := ⟨_, rfl⟩
        have hmi : (k : Int) + (n : Int) = (m : Int) := by omega
        have Hm := Lib.hid hm
        have hkm : k < m := by omega
        have hms : m ≤ s.size := by omega
        have hany : ((fs0 ++ [(b, true)]).any fun f => decide (2000 < f.1.length)) = (lg || decide (2000 < (b.length : Int))) := W.any_snoc Hlg.out
        have hlong : W.longF (fs0 ++ [(b, true)]) = (lg || decide (2000 < (b.length : Int)) || decide (64 < (fs0.length : Int) + 1)) := W.longF_snoc Hlg.out
        have Hlong := Lib.hid hlong
        clear hlong
        have Hany := Lib.hid hany
        have hown3 : W2.ownsRow w.heap.size 45 2 (.slice (some ⟨g', 0, none⟩) (fs0.length + 1) cap') (fs0 ++ [(b, true)]).length (fCells (fs0 ++ [(b, true)])) := by
          rw [List.length_append, ← fCells_snoc]; exact Hown.out
        have Hown3 := Lib.hid hown3
        clear hany hm hown3
        by_cases hend : m = s.size
        · have hb0 : ((m : Int) == (s.size : Int)) = true := by rw [beq_iff_eq]; omega
          have hline := W.rest_end Hrest.out Hfr.out (W.not_bad_end (by omega) (by rw [List.length_drop, Hsl.out]; have := Hm.out; omega)) (by rw [List.length_drop, Hsl.out]; have := Hm.out; omega)
          have Hline := Lib.hid hline
          clear hline
          cases lg <;> by_cases hbl : (2000 : Int) < (b.length : Int) <;> by_cases h64 : (64 : Int) < (fs0.length : Int) + 1
          all_goals
            go_wp2_with fail
            go_ret2
            first
              | exact RSP.ok (by rw [Hlong.out]; simp [hbl, h64]; done) Hown3.out Hline.out hbel2
              | exact RSP.long (by rw [Hlong.out]; simp [hbl, h64]; done) Hline.out hbel2
        · have hlt : m < s.size := by omega
          have hb0 : ((m : Int) == (s.size : Int)) = false := by rw [beq_eq_false_iff_ne]; omega
          have hby := W.drop_byte Hm.out hlt
          have hnl : n < (s.data.toList.drop k).length := by rw [List.length_drop, Hsl.out]; have := Hm.out; omega
          have Hnl := Lib.hid hnl
          have Hby := Lib.hid hby
          clear hby hnl
          by_cases h32 : (((s[m]'hlt).toNat : Int) != 32) = true
          · have hbad := W.rest_bad Hrest.out Hfr.out (Or.inr ⟨Hnl.out, by rw [Hby.out]; intro e; rw [e] at h32; exact absurd h32 (by decide)⟩)
            have Hbad := Lib.hid hbad
            clear hbad
            cases lg <;> by_cases hbl : (2000 : Int) < (b.length : Int)
            all_goals
              go_wp2_with fail
              go_ret2
              exact RSP.bad Hbad.out hbel2
          · have h32' : (((s[m]'hlt).toNat : Int) != 32) = false := by simpa using h32
            have hnext := W.rest_next Hrest.out Hfr.out (by
              rintro (e | ⟨_, e⟩)
              · exact hn e
              · exact e (by rw [Hby.out]; exact W.byte32 h32')) Hnl.out
            rw [List.drop_drop, show k + (n + 1) = m + 1 from by have := Hm.out; omega] at hnext
            have Hnext := Lib.hid hnext
            have hmw : IntKind.i64.wrap ((m : Int) + 1) = (m : Int) + 1 := IntWalk.i64_in _ (by omega)
            clear hnext h32
            cases lg <;> by_cases hbl : (2000 : Int) < (b.length : Int)
            all_goals
              go_wp2_with fail
              go_roundw
              case rel => exact ⟨m + 1, fs0 ++ [(b, true)], by omega, by go_num, by rw [Hany.out]; simp [hbl], by simp; omega, Hnext.out, Hown3.out, hbel2⟩
              case measure => simp [intOf]; omega
end Go.Proofs.YtbjfpmklmhgbdaaDoor
