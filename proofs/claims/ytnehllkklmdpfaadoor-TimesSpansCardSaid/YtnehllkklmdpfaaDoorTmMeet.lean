/- Contracts of Meet, of the program and of the reference. -/
import Derived.Test.YtnehllkklmdpfaaDoorTmFar
import Derived.Test.YtnehllkklmdpfaaDoorTmAwake
namespace Go.Proofs.YtnehllkklmdpfaaDoor
open Go.RowKit
open T (SV)
set_option linter.unusedSimpArgs false
set_option maxRecDepth 100000
namespace T
def meetX (a b : SV) : Int := if errL [a, b] = 0 ∧ max a.1 b.1 < min a.2 b.2 then max a.1 b.1 else 0
def meetY (a b : SV) : Int := if errL [a, b] = 0 ∧ max a.1 b.1 < min a.2 b.2 then min a.2 b.2 else 0
def meetB (a b : SV) : Bool := decide (errL [a, b] = 0 ∧ max a.1 b.1 < min a.2 b.2)
theorem errL_two (a b : SV) : errL [a, b] = if checkE a.1 a.2 = 0 then checkE b.1 b.2 else checkE a.1 a.2 := by
  show (if checkE a.1 a.2 = 0 then (if checkE b.1 b.2 = 0 then 0 else checkE b.1 b.2) else _) = _
  by_cases h : checkE b.1 b.2 = 0
  · rw [if_pos h, h]
  · rw [if_neg h]
end T
/-- What Meet returns. -/
def MeetPost (a b : SV) (w : World) (e : Ending) (w' : World) : Prop := e = .returned (.tuple #[.agg #[.int .i64 (T.meetX a b), .int .i64 (T.meetY a b)], .bool (T.meetB a b), .int .i64 (T.errL [a, b])]) ∧ Below w.heap.size w w'
theorem meet_no {a b : SV} (h : ¬ (T.errL [a, b] = 0 ∧ max a.1 b.1 < min a.2 b.2)) {w w' : World} (hb : Below w.heap.size w w') : MeetPost a b w (.returned (.tuple #[.agg #[.int .i64 0, .int .i64 0], .bool false, .int .i64 (T.errL [a, b])])) w' :=
  ⟨by rw [show T.meetX a b = 0 from if_neg h, show T.meetY a b = 0 from if_neg h, show T.meetB a b = false from decide_eq_false h], hb⟩
theorem meet_yes {a b : SV} (h : T.errL [a, b] = 0 ∧ max a.1 b.1 < min a.2 b.2) {w w' : World} (hb : Below w.heap.size w w') : MeetPost a b w (.returned (.tuple #[.agg #[.int .i64 (max a.1 b.1), .int .i64 (min a.2 b.2)], .bool true, .int .i64 0])) w' :=
  ⟨by rw [show T.meetX a b = _ from if_pos h, show T.meetY a b = _ from if_pos h, show T.meetB a b = true from decide_eq_true h, h.1], hb⟩
/-- A result in a cell and two in places of the call. -/
theorem results_cell_three {P : Program} {fn : Func} {p u z : Tmp} {ty : TypeId} (h : fn.results = #[.cell p ty, .tmp u, .tmp z]) (tmps : Array Value) (w : World) (g : Nat) (t : TypeId) (cs : Array Value) (fr : Nat × Nat) (d : TypeDesc) (v v2 : Value)
    (hp : tmps.getD p undef = .pointer (some ⟨g, 0, none⟩)) (hv : tmps.getD u undef = v) (hv2 : tmps.getD z undef = v2) (hg : w.heap[g]? = some (.cells cs t fr))
    (hu : P.underlying ty = some d) (hd : (match d with | .struct _ | .array _ _ => true | _ => false) = true) (hi : (P.info? ty).map (·.size) = some cs.size) :
    (results fn tmps).run P w = .ok (.tuple #[.agg cs, v, v2]) w := by
  subst hv hv2
  have hp' : tmps[p]?.getD undef = .pointer (some ⟨g, 0, none⟩) := by simpa using hp
  simp only [results, h]
  simp [Sem.run_bind, Result.andThen, hp', asAddr, run_loadVar_row w g t ty cs fr d hg hu hd hi]
theorem set_two {w : World} {g : Nat} {a b : Value} {t : TypeId} (h : w.heap[g]? = some (.cells #[a, b] t (0, 0))) (u v : Value) : ((w.setCell ⟨g, 0, none⟩ u).setCell ⟨g, 1, none⟩ v).heap[g]? = some (.cells #[u, v] t (0, 0)) := by
  have h1 := heap_setCell_same w g 0 _ t u h
  have h2 := heap_setCell_same _ g 1 _ t v h1
  exact h2
theorem info_sp2 : (Tryd.prog.info? 32).map (·.size) = some 2 := by kernel_rfl
/-- Four objects made one after the other. -/
theorem four_laid (w : World) (o1 o2 o3 o4 : Obj) : ∃ W4, (((w.alloc o1).alloc o2).alloc o3).alloc o4 = W4 ∧ W4.heap.size = w.heap.size + 4 ∧ Below w.heap.size w W4 ∧ W4.heap[w.heap.size]? = some o1 ∧ W4.heap[w.heap.size + 1]? = some o2 ∧ W4.heap[w.heap.size + 1 + 1]? = some o3 := by
  have z1 : (w.alloc o1).heap.size = w.heap.size + 1 := by simp
  have z2 : ((w.alloc o1).alloc o2).heap.size = w.heap.size + 1 + 1 := by simp
  have z3 : (((w.alloc o1).alloc o2).alloc o3).heap.size = w.heap.size + 1 + 1 + 1 := by simp
  have b1 := below_new w o1
  have b2 := below_new (w.alloc o1) o2
  have b3 := below_new ((w.alloc o1).alloc o2) o3
  have b4 := below_new (((w.alloc o1).alloc o2).alloc o3) o4
  have h1 := World.alloc_heap_new w o1
  have h2 := World.alloc_heap_new (w.alloc o1) o2
  have h3 := World.alloc_heap_new ((w.alloc o1).alloc o2) o3
  rw [z1] at b2 h2
  rw [z2] at b3 h3
  rw [z3] at b4
  refine ⟨_, rfl, by simp, ((b1.trans (b2.mono (by omega))).trans (b3.mono (by omega))).trans (b4.mono (by omega)), ?_, ?_, ?_⟩
  · rw [b4.block _ (by omega), b3.block _ (by omega), b2.block _ (by omega)]; exact h1
  · rw [b4.block _ (by omega), b3.block _ (by omega)]; exact h2
  · rw [b4.block _ (by omega)]; exact h3
set_option maxHeartbeats 2000000 in
theorem Meet_any (x y p q : Int) (h1 : T.R64 x ∧ T.R64 y) (h2 : T.R64 p ∧ T.R64 q) (w : World) :
    Calls Tryd.prog 20 #[.agg #[.int .i64 x, .int .i64 y], .agg #[.int .i64 p, .int .i64 q]] w (MeetPost (x, y) (p, q) w) := by
  have HN : Hid (∀ s ∈ [(x, y), (p, q)], T.R64 s.1 ∧ T.R64 s.2) := Lib.hid (fun s hs => by
    simp only [List.mem_cons, List.not_mem_nil, or_false] at hs
    rcases hs with rfl | rfl
    · exact h1
    · exact h2)
  clear h1 h2
  go_enter Tryd.func20, Tryd.ntmps20
  go_wp2_with fail
  obtain ⟨W4, hW4, hz, hb4, g0, g1, g2⟩ := four_laid w (.cells #[.int .i64 x, .int .i64 y] 32) (.cells #[.int .i64 p, .int .i64 q] 32) (.cells #[.int .i64 0, .int .i64 0] 32) (.cells #[.int .i64 x, .int .i64 y, .int .i64 p, .int .i64 q] 32)
  have hsp : SpIn W4 W4.heap.size (some ⟨w.heap.size + 1 + 1 + 1, 0, none⟩) 2 [(x, y), (p, q)] := by
    have := made_on (((w.alloc (.cells #[.int .i64 x, .int .i64 y] 32)).alloc (.cells #[.int .i64 p, .int .i64 q] 32)).alloc (.cells #[.int .i64 0, .int .i64 0] 32)) [(x, y), (p, q)] #[.int .i64 x, .int .i64 y, .int .i64 p, .int .i64 q] rfl 32 HN.out (by simp)
    rw [hW4] at this
    simpa using this
  rw [hW4]
  have HC := Lib.hid (checkAll_any (some ⟨w.heap.size + 1 + 1 + 1, 0, none⟩) 2 2 [(x, y), (p, q)] W4 hsp rfl)
  obtain ⟨E, hE⟩ : ∃ E, T.errL [(x, y), (p, q)] = E := ⟨_, rfl⟩
  rw [hE] at HC
  have HE := Lib.hid hE
  have HB4 := Lib.hid hb4
  clear hsp hE hb4 hW4
  by_cases h0 : E = 0
  · subst h0
    refine HC.out.mono ?_
    rintro e w1 ⟨rfl, hb⟩
    have hbw := Lib.hid (bt HB4.out (by omega) hb)
    have hsz := hb.size
    have r0 : w1.heap[w.heap.size]? = _ := (hb.block _ (by omega)).trans g0
    have r1 : w1.heap[w.heap.size + 1]? = _ := (hb.block _ (by omega)).trans g1
    have r2 : w1.heap[w.heap.size + 1 + 1]? = _ := (hb.block _ (by omega)).trans g2
    have c00 : w1.cell? ⟨w.heap.size, 0, none⟩ = some (.int .i64 x) := by rw [cell_of_row _ _ _ _ _ _ r0]; rfl
    have c01 : w1.cell? ⟨w.heap.size, 1, none⟩ = some (.int .i64 y) := by rw [cell_of_row _ _ _ _ _ _ r0]; rfl
    have c10 : w1.cell? ⟨w.heap.size + 1, 0, none⟩ = some (.int .i64 p) := by rw [cell_of_row _ _ _ _ _ _ r1]; rfl
    have c11 : w1.cell? ⟨w.heap.size + 1, 1, none⟩ = some (.int .i64 q) := by rw [cell_of_row _ _ _ _ _ _ r1]; rfl
    have c20 : w1.cell? ⟨w.heap.size + 1 + 1, 0, none⟩ = some (.int .i64 0) := by rw [cell_of_row _ _ _ _ _ _ r2]; rfl
    have c21 : w1.cell? ⟨w.heap.size + 1 + 1, 1, none⟩ = some (.int .i64 0) := by rw [cell_of_row _ _ _ _ _ _ r2]; rfl
    have f20 : w1.frozen? ⟨w.heap.size + 1 + 1, 0, none⟩ = false := by simp [World.frozen?, r2]
    have f21 : w1.frozen? ⟨w.heap.size + 1 + 1, 1, none⟩ = false := by simp [World.frozen?, r2]
    clear r0 r1 g0 g1 g2 hb HC hz
    by_cases hlt : max x p < min y q
    · go_wp2_with fail
      refine bodyPost_ret (results_cell_three rfl _ _ (w.heap.size + 1 + 1) _ _ _ _ _ _ rfl rfl rfl (set_two (set_two r2 _ _) _ _) Tryd.underlying32 rfl info_sp2) rfl ?_
      exact meet_yes ⟨HE.out, hlt⟩ ((((hbw.out.setCell (by simp; omega) _).setCell (by simp; omega) _).setCell (by simp; omega) _).setCell (by simp; omega) _)
    · go_wp2_with fail
      refine bodyPost_ret (results_cell_three rfl _ _ (w.heap.size + 1 + 1) _ _ _ _ _ _ rfl rfl rfl (set_two (set_two r2 _ _) _ _) Tryd.underlying32 rfl info_sp2) rfl ?_
      have hm := meet_no (a := (x, y)) (b := (p, q)) (fun h => absurd h.2 (by simpa using hlt)) ((((hbw.out.setCell (p := ⟨w.heap.size + 1 + 1, 0, none⟩) (by simp; omega) (.int .i64 (max x p))).setCell (p := ⟨w.heap.size + 1 + 1, 1, none⟩) (by simp; omega) (.int .i64 (min y q))).setCell (p := ⟨w.heap.size + 1 + 1, 0, none⟩) (by simp; omega) (.int .i64 0)).setCell (p := ⟨w.heap.size + 1 + 1, 1, none⟩) (by simp; omega) (.int .i64 0))
      rw [HE.out] at hm
      exact hm
  · refine HC.out.mono ?_
    rintro e w1 ⟨rfl, hb⟩
    have hbw := Lib.hid (bt HB4.out (by omega) hb)
    have hsz := hb.size
    have r2 : w1.heap[w.heap.size + 1 + 1]? = _ := (hb.block _ (by omega)).trans g2
    have c20 : w1.cell? ⟨w.heap.size + 1 + 1, 0, none⟩ = some (.int .i64 0) := by rw [cell_of_row _ _ _ _ _ _ r2]; rfl
    have c21 : w1.cell? ⟨w.heap.size + 1 + 1, 1, none⟩ = some (.int .i64 0) := by rw [cell_of_row _ _ _ _ _ _ r2]; rfl
    have f20 : w1.frozen? ⟨w.heap.size + 1 + 1, 0, none⟩ = false := by simp [World.frozen?, r2]
    have f21 : w1.frozen? ⟨w.heap.size + 1 + 1, 1, none⟩ = false := by simp [World.frozen?, r2]
    clear g0 g1 g2 hb HC hz
    go_wp2_with fail
    refine bodyPost_ret (results_cell_three rfl _ _ (w.heap.size + 1 + 1) _ _ _ _ _ _ rfl rfl rfl (set_two r2 _ _) Tryd.underlying32 rfl info_sp2) rfl ?_
    have hm := meet_no (a := (x, y)) (b := (p, q)) (fun h => absurd h.1 (by rw [HE.out]; exact h0)) ((hbw.out.setCell (p := ⟨w.heap.size + 1 + 1, 0, none⟩) (by simp; omega) (.int .i64 0)).setCell (p := ⟨w.heap.size + 1 + 1, 1, none⟩) (by simp; omega) (.int .i64 0))
    rw [HE.out] at hm
    exact hm
/-- Three objects made one after the other. -/
theorem three_laid (w : World) (o1 o2 o3 : Obj) : ∃ W3, ((w.alloc o1).alloc o2).alloc o3 = W3 ∧ W3.heap.size = w.heap.size + 3 ∧ Below w.heap.size w W3 ∧ W3.heap[w.heap.size]? = some o1 ∧ W3.heap[w.heap.size + 1]? = some o2 ∧ W3.heap[w.heap.size + 1 + 1]? = some o3 := by
  have z1 : (w.alloc o1).heap.size = w.heap.size + 1 := by simp
  have z2 : ((w.alloc o1).alloc o2).heap.size = w.heap.size + 1 + 1 := by simp
  have b1 := below_new w o1
  have b2 := below_new (w.alloc o1) o2
  have b3 := below_new ((w.alloc o1).alloc o2) o3
  have h1 := World.alloc_heap_new w o1
  have h2 := World.alloc_heap_new (w.alloc o1) o2
  have h3 := World.alloc_heap_new ((w.alloc o1).alloc o2) o3
  rw [z1] at b2 h2
  rw [z2] at b3 h3
  refine ⟨_, rfl, by simp, (b1.trans (b2.mono (by omega))).trans (b3.mono (by omega)), ?_, ?_, ?_⟩
  · rw [b3.block _ (by omega), b2.block _ (by omega)]; exact h1
  · rw [b3.block _ (by omega)]; exact h2
  · exact h3
theorem meet_facts {w : World} {n : Nat} {x y : Int} {t : TypeId} (r : w.heap[n]? = some (.cells #[.int .i64 x, .int .i64 y] t (0, 0))) : w.cell? ⟨n, 0, none⟩ = some (.int .i64 x) ∧ w.cell? ⟨n, 1, none⟩ = some (.int .i64 y) ∧ w.frozen? ⟨n, 0, none⟩ = false ∧ w.frozen? ⟨n, 1, none⟩ = false :=
  ⟨by rw [cell_of_row _ _ _ _ _ _ r]; rfl, by rw [cell_of_row _ _ _ _ _ _ r]; rfl, frozen_of_row _ _ _ _ _ r, frozen_of_row _ _ _ _ _ r⟩
set_option maxHeartbeats 2000000 in
theorem RMeet_any (x y p q : Int) (w : World) :
    Calls Tryd.prog 21 #[.agg #[.int .i64 x, .int .i64 y], .agg #[.int .i64 p, .int .i64 q]] w (MeetPost (x, y) (p, q) w) := by
  have HT := Lib.hid (T.errL_two (x, y) (p, q))
  have HC1 := fun w1 => RCheck_any x y w1
  have HC2 := fun w1 => RCheck_any p q w1
  obtain ⟨E1, hE1⟩ : ∃ E, T.checkE x y = E := ⟨_, rfl⟩
  obtain ⟨E2, hE2⟩ : ∃ E, T.checkE p q = E := ⟨_, rfl⟩
  simp only [hE1, hE2] at HT HC1 HC2
  replace HC1 := Lib.hid HC1
  replace HC2 := Lib.hid HC2
  clear hE1 hE2
  go_enter Tryd.func21, Tryd.ntmps21
  go_wp2_with fail
  obtain ⟨W3, hW3, hz, hb3, g0, g1, g2⟩ := three_laid w (.cells #[.int .i64 x, .int .i64 y] 32) (.cells #[.int .i64 p, .int .i64 q] 32) (.cells #[.int .i64 0, .int .i64 0] 32)
  rw [hW3]
  have HB3 := Lib.hid hb3
  clear hW3 hb3
  refine (HC1.out W3).mono ?_
  rintro e w1 ⟨rfl, hb⟩
  have hbw := Lib.hid (bt HB3.out (by omega) hb)
  have hsz := hb.size
  have r0 : w1.heap[w.heap.size]? = _ := (hb.block _ (by omega)).trans g0
  have r1 : w1.heap[w.heap.size + 1]? = _ := (hb.block _ (by omega)).trans g1
  have r2 : w1.heap[w.heap.size + 1 + 1]? = _ := (hb.block _ (by omega)).trans g2
  have R0 := Lib.hid r0
  have R1 := Lib.hid r1
  obtain ⟨c00, c01, -, -⟩ := meet_facts r0
  obtain ⟨c10, c11, -, -⟩ := meet_facts r1
  obtain ⟨c20, c21, f20, f21⟩ := meet_facts r2
  clear g0 g1 g2 hb r0 r1
  by_cases h1 : E1 = 0
  · subst h1
    rw [if_pos rfl] at HT
    clear c20 c21 f20 f21
    go_wp2_with fail
    refine (HC2.out w1).mono ?_
    rintro e w2 ⟨rfl, hb⟩
    have hbw2 := Lib.hid (hbw.out.trans (hb.mono (by omega)))
    have hz2 : w.heap.size + 3 ≤ w2.heap.size := by have := hb.size; omega
    have s0 : w2.heap[w.heap.size]? = _ := (hb.block _ (by omega)).trans R0.out
    have s1 : w2.heap[w.heap.size + 1]? = _ := (hb.block _ (by omega)).trans R1.out
    have s2 : w2.heap[w.heap.size + 1 + 1]? = _ := (hb.block _ (by omega)).trans r2
    clear c00 c01 c10 c11
    obtain ⟨c00, c01, -, -⟩ := meet_facts s0
    obtain ⟨c10, c11, -, -⟩ := meet_facts s1
    obtain ⟨c20, c21, f20, f21⟩ := meet_facts s2
    have t2 : (w2.alloc (.cells #[.int .i64 (max x p), .int .i64 (min y q)] 32)).heap[w.heap.size + 1 + 1]? = _ := ((below_new w2 _).block (w.heap.size + 1 + 1) (by omega)).trans s2
    obtain ⟨k20, k21, l20, l21⟩ := meet_facts t2
    clear s0 s1 s2 r2 hb hbw R0 R1 HC1 HC2 hsz hz
    by_cases hlt : E2 = 0 ∧ max x p < min y q
    · obtain ⟨rfl, hlt⟩ := hlt
      go_wp2_with fail
      refine bodyPost_ret (results_cell_three rfl _ _ (w.heap.size + 1 + 1) _ _ _ _ _ _ rfl rfl rfl (set_two t2 _ _) Tryd.underlying32 rfl info_sp2) rfl ?_
      exact meet_yes ⟨HT.out, hlt⟩ (((hbw2.out.alloc (by omega) _).setCell (by simp; omega) _).setCell (by simp; omega) _)
    · have hm := meet_no (a := (x, y)) (b := (p, q)) (fun h => hlt ⟨HT.out.symm.trans h.1, h.2⟩) (((hbw2.out.alloc (by omega) (.cells #[.int .i64 (max x p), .int .i64 (min y q)] 32)).setCell (p := ⟨w.heap.size + 1 + 1, 0, none⟩) (by simp; omega) (.int .i64 0)).setCell (p := ⟨w.heap.size + 1 + 1, 1, none⟩) (by simp; omega) (.int .i64 0))
      rw [HT.out] at hm
      replace hm := Lib.hid hm
      by_cases h2 : E2 = 0
      · subst h2
        have hge : ¬ max x p < min y q := fun h => hlt ⟨rfl, h⟩
        clear hlt
        go_wp2_with fail
        refine bodyPost_ret (results_cell_three rfl _ _ (w.heap.size + 1 + 1) _ _ _ _ _ _ rfl rfl rfl (set_two t2 _ _) Tryd.underlying32 rfl info_sp2) rfl ?_
        exact hm.out
      · clear hlt
        go_wp2_with fail
        refine bodyPost_ret (results_cell_three rfl _ _ (w.heap.size + 1 + 1) _ _ _ _ _ _ rfl rfl rfl (set_two t2 _ _) Tryd.underlying32 rfl info_sp2) rfl ?_
        exact hm.out
  · rw [if_neg h1] at HT
    have t2 : (w1.alloc (.cells #[.int .i64 (max x p), .int .i64 (min y q)] 32)).heap[w.heap.size + 1 + 1]? = _ := ((below_new w1 _).block (w.heap.size + 1 + 1) (by omega)).trans r2
    obtain ⟨k20, k21, l20, l21⟩ := meet_facts t2
    have hm := meet_no (a := (x, y)) (b := (p, q)) (fun h => h1 (HT.out.symm.trans h.1)) (((hbw.out.alloc (by omega) (.cells #[.int .i64 (max x p), .int .i64 (min y q)] 32)).setCell (p := ⟨w.heap.size + 1 + 1, 0, none⟩) (by simp; omega) (.int .i64 0)).setCell (p := ⟨w.heap.size + 1 + 1, 1, none⟩) (by simp; omega) (.int .i64 0))
    rw [HT.out] at hm
    replace hm := Lib.hid hm
    have hz2 : w.heap.size + 3 ≤ w1.heap.size := by omega
    clear hsz hz r2 R0 R1 HC1 HC2
    go_wp2_with fail
    refine bodyPost_ret (results_cell_three rfl _ _ (w.heap.size + 1 + 1) _ _ _ _ _ _ rfl rfl rfl (set_two t2 _ _) Tryd.underlying32 rfl info_sp2) rfl ?_
    exact hm.out
end Go.Proofs.YtnehllkklmdpfaaDoor
