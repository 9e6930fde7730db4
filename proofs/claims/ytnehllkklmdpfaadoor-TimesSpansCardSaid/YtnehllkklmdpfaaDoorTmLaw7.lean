/- TimesSpans. -/
import Derived.Test.YtnehllkklmdpfaaDoorTmSpTail
import Derived.Test.YtnehllkklmdpfaaDoorTmEnds
namespace Go.Proofs.YtnehllkklmdpfaaDoor
open Go.RowKit
open T (SV)
set_option linter.unusedSimpArgs false
set_option maxRecDepth 100000
/-- What the sixth region reads: both results of Meet. -/
structure R6 (w : World) (g1 g2 : Nat) (x y : Int) (v : World) : Prop where
  bel : Below w.heap.size w v
  r1 : v.heap[g1]? = some (.cells #[.int .i64 x, .int .i64 y] 32 (0, 0))
  r2 : v.heap[g2]? = some (.cells #[.int .i64 x, .int .i64 y] 32 (0, 0))
theorem R6.on {w v v' : World} {g1 g2 : Nat} {x y : Int} (h : R6 w g1 g2 x y v) (hb : Below v.heap.size v v') : R6 w g1 g2 x y v' :=
  ⟨bt h.bel h.bel.size hb, (hb.block _ (Array.getElem?_eq_some_iff.1 h.r1).1).trans h.r1, (hb.block _ (Array.getElem?_eq_some_iff.1 h.r2).1).trans h.r2⟩
theorem SpIn.first {w : World} {B c : Nat} {A : Option Addr} {l : List SV} (h : SpIn w B A c l) (h0 : 0 < l.length) : ∃ ad, A = some ad ∧ ad.block < B ∧ w.cell? ad = some (.int .i64 (l[0]).1) ∧ w.cell? ⟨ad.block, ad.off + 1, none⟩ = some (.int .i64 (l[0]).2) := by
  obtain ⟨ad, e, h1, h2, h3⟩ := h.at_ h0
  exact ⟨ad, e, h1, h2, h3⟩
set_option maxHeartbeats 8000000 in
theorem spans_some (hset : SetC) (A A2 : Option Addr) (c c2 m m2 : Nat) (a b : List SV) (w : World) (hT : Tab w) (ha : SpIn w w.heap.size A c a) (hb : SpIn w w.heap.size A2 c2 b) (ham : a.length = m) (hbm : b.length = m2) (hf : T.farV m = false) (hf2 : T.farV m2 = false) (h0 : 0 < m) (h02 : 0 < m2) :
    Calls Tryd.prog 4 #[.slice A m c, .slice A2 m2 c2] w fun e w' => e = .returned (.bool true) ∧ Below w.heap.size w w' := by
  have HS := Lib.hid hset
  have HT := Lib.hid hT
  have HA := Lib.hid ha
  have HB := Lib.hid hb
  have Ham := Lib.hid ham
  have Hbm := Lib.hid hbm
  have F1 := Lib.hid (fun w => far_any A c m w)
  have F2 := Lib.hid (fun w => far_any A2 c2 m2 w)
  have G1 : Hid (T.listE m a = 0 → ∀ t, T.In a t → 0 ≤ t ∧ t < T.big) := Lib.hid (fun h t => (T.listE_good h ha.nums).2.within t)
  have G2 : Hid (T.listsE m m2 a b = 0 → ∀ t, (T.In a t ∧ ¬ T.In b t) → 0 ≤ t ∧ t < T.big) := Lib.hid (fun h t ht => (T.listsE_good h ha.nums hb.nums).2.2.1.within t ht.1)
  have hle := ha.le
  have hcm := ha.cap
  have hle2 := hb.le
  have hcm2 := hb.cap
  unfold maxLen at hcm hcm2
  rw [ham] at hle
  rw [hbm] at hle2
  rw [hf] at F1
  rw [hf2] at F2
  clear hset hT ha hb ham hbm hf hf2
  obtain ⟨E, hE⟩ : ∃ E, T.listE m a = E := ⟨_, rfl⟩
  obtain ⟨E2, hE2⟩ : ∃ E2, T.listsE m m2 a b = E2 := ⟨_, rfl⟩
  have U1 := fun w h => Union_any A c m a w h Ham.out
  have U2 := fun w h => RUnion_of HS.out A c m a w h Ham.out
  have M1 := fun w h h' => Minus_any A A2 c c2 m m2 a b w h h' Ham.out Hbm.out
  have M2 := fun w h h' => RMinus_of HS.out A A2 c c2 m m2 a b w h h' Ham.out Hbm.out
  have T1 := fun w h => Total_any A c m a w h Ham.out
  have T2 := fun w h => RTotal_of HS.out A c m a w h Ham.out
  rw [hE] at G1
  rw [hE2] at G2
  simp only [hE] at U1 U2 T1 T2
  simp only [hE2] at M1 M2
  clear hE hE2
  replace U1 := Lib.hid U1
  replace U2 := Lib.hid U2
  replace M1 := Lib.hid M1
  replace M2 := Lib.hid M2
  replace T1 := Lib.hid T1
  replace T2 := Lib.hid T2
  have h0f : 0 < a.length := by rw [Ham.out]; exact h0
  have h02f : 0 < b.length := by rw [Hbm.out]; exact h02
  obtain ⟨ad, hAe, hlA, c0, c1⟩ := HA.out.first h0f
  obtain ⟨ad2, hAe2, hlB, c2, c3⟩ := HB.out.first h02f
  subst hAe hAe2
  have n1 := HA.out.nums _ (List.getElem_mem h0f)
  have n2 := HB.out.nums _ (List.getElem_mem h02f)
  obtain ⟨x, hx⟩ : ∃ x, (a[0]'h0f).1 = x := ⟨_, rfl⟩
  obtain ⟨y, hy⟩ : ∃ y, (a[0]'h0f).2 = y := ⟨_, rfl⟩
  obtain ⟨p, hp⟩ : ∃ p, (b[0]'h02f).1 = p := ⟨_, rfl⟩
  obtain ⟨q, hq⟩ : ∃ q, (b[0]'h02f).2 = q := ⟨_, rfl⟩
  rw [hx, hy] at n1
  rw [hp, hq] at n2
  rw [hx] at c0
  rw [hy] at c1
  rw [hp] at c2
  rw [hq] at c3
  have HhA := Lib.hid hlA
  have HhB := Lib.hid hlB
  have C0 := Lib.hid c0
  have C1 := Lib.hid c1
  have C2 := Lib.hid c2
  have C3 := Lib.hid c3
  have MA := fun W => Meet_any x y p q n1 n2 W
  have MB := fun W => RMeet_any x y p q W
  have K1 := Lib.hid (fun W => Check_any x y W)
  have K2 := Lib.hid (fun W => RCheck_any x y W)
  unfold MeetPost at MA MB
  generalize T.meetX (x, y) (p, q) = mx at MA MB
  generalize T.meetY (x, y) (p, q) = my at MA MB
  generalize T.meetB (x, y) (p, q) = mb at MA MB
  generalize T.errL [(x, y), (p, q)] = me at MA MB
  generalize T.checkE x y = ke at K1 K2
  replace MA := Lib.hid MA
  replace MB := Lib.hid MB
  clear hlA hlB c0 c1 c2 c3 n1 n2 hx hy hp hq
  go_enter Tryd.func4, Tryd.ntmps4
  go_wp2_with fail
  refine (F1.out _).mono ?_
  rintro e w' ⟨rfl, rfl⟩
  go_wp2_with fail
  refine (F2.out _).mono ?_
  rintro e w' ⟨rfl, rfl⟩
  go_wp2_with fail
  refine wp_region_noPanic ?_
  refine wp_region_held_drew (S := fun v => Below w.heap.size w v) (by kernel_rfl) (Below.refl w.heap.size w).drew (fun hHeld => ?_)
  replace hHeld : Below w.heap.size w (w).drew := hHeld
  generalize (w).drew = X0 at hHeld ⊢
  refine wpAnyH_take (i := 0) (oi := ({ dst := some 39, op := Op.move (Operand.tmp 0), type := 29, pos := "law.go:49", after := #[], guard := none } : Oper)) (v := ?_) rfl (by kernel_rfl) (by kernel_rfl) (by kernel_rfl) (fun _ _ _ h => h) (Or.inl ⟨by rfl, ?_⟩) (by assumption) ?_
  rotate_left 1
  · intro v hSw
    replace hSw : Below w.heap.size w v := hSw
    have s0 := (hSw.cell HhA.out).trans C0.out
    have s1 := (hSw.cell (show (⟨ad.block, ad.off + 1, none⟩ : Addr).block < _ from HhA.out)).trans C1.out
    have s2 := (hSw.cell HhB.out).trans C2.out
    have s3 := (hSw.cell (show (⟨ad2.block, ad2.off + 1, none⟩ : Addr).block < _ from HhB.out)).trans C3.out
    (try go_simp)
    (try with_reducible rfl)
  (try simp only [Act.put, List.setIfInBounds_toArray, List.set_cons_zero, List.set_cons_succ])
  refine wpAnyH_take (i := 1) (oi := ({ dst := some 40, op := Op.indexAddr 29 (Operand.tmp 39) (Operand.const (Value.int IntKind.i64 0)), type := 0, pos := "law.go:49", after := #[{ on := 0, ground := Ground.data }], guard := none } : Oper)) (v := ?_) rfl (by kernel_rfl) (by kernel_rfl) (by kernel_rfl) (fun _ _ _ h => h) (Or.inl ⟨by rfl, ?_⟩) (by assumption) ?_
  rotate_left 1
  · intro v hSw
    replace hSw : Below w.heap.size w v := hSw
    have s0 := (hSw.cell HhA.out).trans C0.out
    have s1 := (hSw.cell (show (⟨ad.block, ad.off + 1, none⟩ : Addr).block < _ from HhA.out)).trans C1.out
    have s2 := (hSw.cell HhB.out).trans C2.out
    have s3 := (hSw.cell (show (⟨ad2.block, ad2.off + 1, none⟩ : Addr).block < _ from HhB.out)).trans C3.out
    (try go_simp)
    (try with_reducible rfl)
  (try simp only [Act.put, List.setIfInBounds_toArray, List.set_cons_zero, List.set_cons_succ])
  refine wpAnyH_take (i := 2) (oi := ({ dst := some 41, op := Op.load 32 (Operand.tmp 40), type := 32, pos := "law.go:49", after := #[{ on := 1, ground := Ground.data }], guard := none } : Oper)) (v := ?_) rfl (by kernel_rfl) (by kernel_rfl) (by kernel_rfl) (fun _ _ _ h => h) (Or.inl ⟨by rfl, ?_⟩) (by assumption) ?_
  rotate_left 1
  · intro v hSw
    replace hSw : Below w.heap.size w v := hSw
    have s0 := (hSw.cell HhA.out).trans C0.out
    have s1 := (hSw.cell (show (⟨ad.block, ad.off + 1, none⟩ : Addr).block < _ from HhA.out)).trans C1.out
    have s2 := (hSw.cell HhB.out).trans C2.out
    have s3 := (hSw.cell (show (⟨ad2.block, ad2.off + 1, none⟩ : Addr).block < _ from HhB.out)).trans C3.out
    (try go_simp)
    (try with_reducible rfl)
  (try simp only [Act.put, List.setIfInBounds_toArray, List.set_cons_zero, List.set_cons_succ])
  refine wpAnyH_take (i := 3) (oi := ({ dst := some 42, op := Op.move (Operand.tmp 1), type := 29, pos := "law.go:49", after := #[], guard := none } : Oper)) (v := ?_) rfl (by kernel_rfl) (by kernel_rfl) (by kernel_rfl) (fun _ _ _ h => h) (Or.inl ⟨by rfl, ?_⟩) (by assumption) ?_
  rotate_left 1
  · intro v hSw
    replace hSw : Below w.heap.size w v := hSw
    have s0 := (hSw.cell HhA.out).trans C0.out
    have s1 := (hSw.cell (show (⟨ad.block, ad.off + 1, none⟩ : Addr).block < _ from HhA.out)).trans C1.out
    have s2 := (hSw.cell HhB.out).trans C2.out
    have s3 := (hSw.cell (show (⟨ad2.block, ad2.off + 1, none⟩ : Addr).block < _ from HhB.out)).trans C3.out
    (try go_simp)
    (try with_reducible rfl)
  (try simp only [Act.put, List.setIfInBounds_toArray, List.set_cons_zero, List.set_cons_succ])
  refine wpAnyH_take (i := 4) (oi := ({ dst := some 43, op := Op.indexAddr 29 (Operand.tmp 42) (Operand.const (Value.int IntKind.i64 0)), type := 0, pos := "law.go:49", after := #[{ on := 3, ground := Ground.data }], guard := none } : Oper)) (v := ?_) rfl (by kernel_rfl) (by kernel_rfl) (by kernel_rfl) (fun _ _ _ h => h) (Or.inl ⟨by rfl, ?_⟩) (by assumption) ?_
  rotate_left 1
  · intro v hSw
    replace hSw : Below w.heap.size w v := hSw
    have s0 := (hSw.cell HhA.out).trans C0.out
    have s1 := (hSw.cell (show (⟨ad.block, ad.off + 1, none⟩ : Addr).block < _ from HhA.out)).trans C1.out
    have s2 := (hSw.cell HhB.out).trans C2.out
    have s3 := (hSw.cell (show (⟨ad2.block, ad2.off + 1, none⟩ : Addr).block < _ from HhB.out)).trans C3.out
    (try go_simp)
    (try with_reducible rfl)
  (try simp only [Act.put, List.setIfInBounds_toArray, List.set_cons_zero, List.set_cons_succ])
  refine wpAnyH_take (i := 5) (oi := ({ dst := some 44, op := Op.load 32 (Operand.tmp 43), type := 32, pos := "law.go:49", after := #[{ on := 4, ground := Ground.data }], guard := none } : Oper)) (v := ?_) rfl (by kernel_rfl) (by kernel_rfl) (by kernel_rfl) (fun _ _ _ h => h) (Or.inl ⟨by rfl, ?_⟩) (by assumption) ?_
  rotate_left 1
  · intro v hSw
    replace hSw : Below w.heap.size w v := hSw
    have s0 := (hSw.cell HhA.out).trans C0.out
    have s1 := (hSw.cell (show (⟨ad.block, ad.off + 1, none⟩ : Addr).block < _ from HhA.out)).trans C1.out
    have s2 := (hSw.cell HhB.out).trans C2.out
    have s3 := (hSw.cell (show (⟨ad2.block, ad2.off + 1, none⟩ : Addr).block < _ from HhB.out)).trans C3.out
    (try go_simp)
    (try with_reducible rfl)
  (try simp only [Act.put, List.setIfInBounds_toArray, List.set_cons_zero, List.set_cons_succ])
  refine wpAnyH_ready (rs := [6, 11]) (by kernel_rfl) (by simp) ?_
  refine AllReadyH.cons (o := ({ dst := some 45, op := Op.call { callee := Callee.value (Operand.func 20), args := #[Operand.tmp 41, Operand.tmp 44], argTypes := #[32, 32] }, type := 33, pos := "law.go:49", after := #[{ on := 2, ground := Ground.data }, { on := 5, ground := Ground.data }], guard := none } : Oper)) rfl (fun K hK => ?_) (AllReadyH.cons (o := ({ dst := some 5, op := Op.alloc 32, type := 0, pos := "law.go:49", after := #[], guard := none } : Oper)) rfl (fun K hK => ?_) (AllReadyH.nil))
  · skip
    go_simp
    refine (MA.out X0).mono ?_
    rintro e W1 ⟨rfl, hc⟩
    have hb1 : Below w.heap.size w W1 := bt hHeld hHeld.size hc
    refine hK.out _ _ hb1 (fun _ => ?_)
    clear hK K
    (try simp only [Act.put, List.setIfInBounds_toArray, List.set_cons_zero, List.set_cons_succ])
    refine wpAnyH_take (i := 7) (oi := ({ dst := some 38, op := Op.move (Operand.tmp 45), type := 33, pos := "law.go:49", after := #[{ on := 6, ground := Ground.data }], guard := none } : Oper)) (v := ?_) rfl (by kernel_rfl) (by kernel_rfl) (by kernel_rfl) (fun _ _ _ h => h) (Or.inl ⟨by rfl, ?_⟩) (by assumption) ?_
    rotate_left 1
    · intro v hSw
      (try go_simp)
      (try with_reducible rfl)
    (try simp only [Act.put, List.setIfInBounds_toArray, List.set_cons_zero, List.set_cons_succ])
    refine wpAnyH_take (i := 8) (oi := ({ dst := some 46, op := Op.extract (Operand.tmp 38) 0, type := 32, pos := "law.go:49", after := #[{ on := 7, ground := Ground.data }], guard := none } : Oper)) (v := ?_) rfl (by kernel_rfl) (by kernel_rfl) (by kernel_rfl) (fun _ _ _ h => h) (Or.inl ⟨by rfl, ?_⟩) (by assumption) ?_
    rotate_left 1
    · intro v hSw
      (try go_simp)
      (try with_reducible rfl)
    (try simp only [Act.put, List.setIfInBounds_toArray, List.set_cons_zero, List.set_cons_succ])
    refine wpAnyH_take (i := 9) (oi := ({ dst := some 47, op := Op.extract (Operand.tmp 38) 1, type := 4, pos := "law.go:49", after := #[{ on := 7, ground := Ground.data }, { on := 12, ground := Ground.gcOnly Departure.lateStores }], guard := none } : Oper)) (v := ?_) rfl (by kernel_rfl) (by kernel_rfl) (by kernel_rfl) (fun _ _ _ h => h) (Or.inl ⟨by rfl, ?_⟩) (by assumption) ?_
    rotate_left 1
    · intro v hSw
      (try go_simp)
      (try with_reducible rfl)
    (try simp only [Act.put, List.setIfInBounds_toArray, List.set_cons_zero, List.set_cons_succ])
    refine wpAnyH_take (i := 10) (oi := ({ dst := some 48, op := Op.extract (Operand.tmp 38) 2, type := 22, pos := "law.go:49", after := #[{ on := 7, ground := Ground.data }, { on := 13, ground := Ground.gcOnly Departure.lateStores }], guard := none } : Oper)) (v := ?_) rfl (by kernel_rfl) (by kernel_rfl) (by kernel_rfl) (fun _ _ _ h => h) (Or.inl ⟨by rfl, ?_⟩) (by assumption) ?_
    rotate_left 1
    · intro v hSw
      (try go_simp)
      (try with_reducible rfl)
    (try simp only [Act.put, List.setIfInBounds_toArray, List.set_cons_zero, List.set_cons_succ])
    refine wpAnyH_ready (rs := [11]) (by kernel_rfl) (by simp) ?_
    refine AllReadyH.cons (o := ({ dst := some 5, op := Op.alloc 32, type := 0, pos := "law.go:49", after := #[], guard := none } : Oper)) rfl (fun K hK => ?_) (AllReadyH.nil)
    go_simp
    have hb2 : Below w.heap.size w (W1.alloc (.cells #[.int .i64 0, .int .i64 0] 32)) := bt hb1 hb1.size (below_new _ _)
    have hr2 := World.alloc_heap_new W1 (.cells #[.int .i64 0, .int .i64 0] 32)
    have hg2 := hb1.size
    generalize (W1.alloc (.cells #[.int .i64 0, .int .i64 0] 32)) = W2 at hb2 hr2 ⊢
    generalize W1.heap.size = gP at hr2 hg2 ⊢
    refine hK.out _ _ hb2 (fun _ => ?_)
    clear hK K
    (try simp only [Act.put, List.setIfInBounds_toArray, List.set_cons_zero, List.set_cons_succ])
    refine wpAnyH_ready (rs := [12]) (by kernel_rfl) (by simp) ?_
    refine AllReadyH.cons (o := ({ dst := none, op := Op.store 32 (Operand.tmp 5) (Operand.tmp 46), type := 0, pos := "law.go:49", after := #[{ on := 11, ground := Ground.data }, { on := 8, ground := Ground.data }, { on := 6, ground := Ground.chain }, { on := 0, ground := Ground.phase }, { on := 1, ground := Ground.phase }, { on := 2, ground := Ground.phase }, { on := 3, ground := Ground.phase }, { on := 4, ground := Ground.phase }, { on := 5, ground := Ground.phase }, { on := 6, ground := Ground.phase }, { on := 7, ground := Ground.phase }, { on := 8, ground := Ground.phase }, { on := 9, ground := Ground.textOnly Departure.lateStores }, { on := 10, ground := Ground.textOnly Departure.lateStores }, { on := 11, ground := Ground.phase }], guard := none } : Oper)) rfl (fun K hK => ?_) (AllReadyH.nil)
    obtain ⟨f0, f1, f2, f3⟩ := meet_facts hr2
    go_simp
    have hrP := set_two hr2 (.int .i64 mx) (.int .i64 my)
    have hbP : Below w.heap.size w ((W2.setCell ⟨gP, 0, none⟩ (.int .i64 mx)).setCell ⟨gP, 1, none⟩ (.int .i64 my)) := (hb2.setCell (p := ⟨gP, 0, none⟩) hg2 _).setCell (p := ⟨gP, 1, none⟩) hg2 _
    generalize ((W2.setCell ⟨gP, 0, none⟩ (.int .i64 mx)).setCell ⟨gP, 1, none⟩ (.int .i64 my)) = WP at hrP hbP ⊢
    refine hK.out _ _ hbP (fun _ => ?_)
    clear hK K
    (try simp only [Act.put, List.setIfInBounds_toArray, List.set_cons_zero, List.set_cons_succ])
    refine wpAnyH_take (i := 13) (oi := ({ dst := some 6, op := Op.assign (Operand.tmp 47), type := 4, pos := "law.go:49", after := #[{ on := 9, ground := Ground.data }, { on := 12, ground := Ground.chain }, { on := 0, ground := Ground.phase }, { on := 1, ground := Ground.phase }, { on := 2, ground := Ground.phase }, { on := 3, ground := Ground.phase }, { on := 4, ground := Ground.phase }, { on := 5, ground := Ground.phase }, { on := 6, ground := Ground.phase }, { on := 7, ground := Ground.phase }, { on := 8, ground := Ground.phase }, { on := 9, ground := Ground.phase }, { on := 10, ground := Ground.textOnly Departure.lateStores }, { on := 11, ground := Ground.phase }, { on := 12, ground := Ground.phase }], guard := none } : Oper)) (v := ?_) rfl (by kernel_rfl) (by kernel_rfl) (by kernel_rfl) (fun _ _ _ h => h) (Or.inl ⟨by rfl, ?_⟩) (by assumption) ?_
    rotate_left 1
    · intro v hSw
      (try go_simp)
      (try with_reducible rfl)
    (try simp only [Act.put, List.setIfInBounds_toArray, List.set_cons_zero, List.set_cons_succ])
    refine wpAnyH_take (i := 14) (oi := ({ dst := some 7, op := Op.assign (Operand.tmp 48), type := 22, pos := "law.go:49", after := #[{ on := 10, ground := Ground.data }, { on := 13, ground := Ground.chain }, { on := 0, ground := Ground.phase }, { on := 1, ground := Ground.phase }, { on := 2, ground := Ground.phase }, { on := 3, ground := Ground.phase }, { on := 4, ground := Ground.phase }, { on := 5, ground := Ground.phase }, { on := 6, ground := Ground.phase }, { on := 7, ground := Ground.phase }, { on := 8, ground := Ground.phase }, { on := 9, ground := Ground.phase }, { on := 10, ground := Ground.phase }, { on := 11, ground := Ground.phase }, { on := 12, ground := Ground.phase }, { on := 13, ground := Ground.phase }], guard := none } : Oper)) (v := ?_) rfl (by kernel_rfl) (by kernel_rfl) (by kernel_rfl) (fun _ _ _ h => h) (Or.inl ⟨by rfl, ?_⟩) (by assumption) ?_
    rotate_left 1
    · intro v hSw
      (try go_simp)
      (try with_reducible rfl)
    (try simp only [Act.put, List.setIfInBounds_toArray, List.set_cons_zero, List.set_cons_succ])
    refine wpAnyH_done (by kernel_rfl) ?_ _
    refine NoPanic.normal ?_
    have HbP := Lib.hid hbP
    have HrP := Lib.hid hrP
    have HlP := Lib.hid (Array.getElem?_eq_some_iff.1 hrP).1
    clear hHeld hr2 hb2 hg2 f0 f1 f2 f3 hb1 hc hbP hrP 
    go_wp2_with fail
    refine wp_region_noPanic ?_
    refine wp_region_held_drew (S := fun v => Below WP.heap.size WP v) (by kernel_rfl) (Below.refl WP.heap.size WP).drew (fun hHeld => ?_)
    replace hHeld : Below WP.heap.size WP (WP).drew := hHeld
    generalize (WP).drew = X0 at hHeld ⊢
    refine wpAnyH_take (i := 0) (oi := ({ dst := some 50, op := Op.move (Operand.tmp 0), type := 29, pos := "law.go:50", after := #[], guard := none } : Oper)) (v := ?_) rfl (by kernel_rfl) (by kernel_rfl) (by kernel_rfl) (fun _ _ _ h => h) (Or.inl ⟨by rfl, ?_⟩) (by assumption) ?_
    rotate_left 1
    · intro v hSw
      replace hSw : Below w.heap.size w v := bt HbP.out HbP.out.size hSw
      have s0 := (hSw.cell HhA.out).trans C0.out
      have s1 := (hSw.cell (show (⟨ad.block, ad.off + 1, none⟩ : Addr).block < _ from HhA.out)).trans C1.out
      have s2 := (hSw.cell HhB.out).trans C2.out
      have s3 := (hSw.cell (show (⟨ad2.block, ad2.off + 1, none⟩ : Addr).block < _ from HhB.out)).trans C3.out
      (try go_simp)
      (try with_reducible rfl)
    (try simp only [Act.put, List.setIfInBounds_toArray, List.set_cons_zero, List.set_cons_succ])
    refine wpAnyH_take (i := 1) (oi := ({ dst := some 51, op := Op.indexAddr 29 (Operand.tmp 50) (Operand.const (Value.int IntKind.i64 0)), type := 0, pos := "law.go:50", after := #[{ on := 0, ground := Ground.data }], guard := none } : Oper)) (v := ?_) rfl (by kernel_rfl) (by kernel_rfl) (by kernel_rfl) (fun _ _ _ h => h) (Or.inl ⟨by rfl, ?_⟩) (by assumption) ?_
    rotate_left 1
    · intro v hSw
      replace hSw : Below w.heap.size w v := bt HbP.out HbP.out.size hSw
      have s0 := (hSw.cell HhA.out).trans C0.out
      have s1 := (hSw.cell (show (⟨ad.block, ad.off + 1, none⟩ : Addr).block < _ from HhA.out)).trans C1.out
      have s2 := (hSw.cell HhB.out).trans C2.out
      have s3 := (hSw.cell (show (⟨ad2.block, ad2.off + 1, none⟩ : Addr).block < _ from HhB.out)).trans C3.out
      (try go_simp)
      (try with_reducible rfl)
    (try simp only [Act.put, List.setIfInBounds_toArray, List.set_cons_zero, List.set_cons_succ])
    refine wpAnyH_take (i := 2) (oi := ({ dst := some 52, op := Op.load 32 (Operand.tmp 51), type := 32, pos := "law.go:50", after := #[{ on := 1, ground := Ground.data }], guard := none } : Oper)) (v := ?_) rfl (by kernel_rfl) (by kernel_rfl) (by kernel_rfl) (fun _ _ _ h => h) (Or.inl ⟨by rfl, ?_⟩) (by assumption) ?_
    rotate_left 1
    · intro v hSw
      replace hSw : Below w.heap.size w v := bt HbP.out HbP.out.size hSw
      have s0 := (hSw.cell HhA.out).trans C0.out
      have s1 := (hSw.cell (show (⟨ad.block, ad.off + 1, none⟩ : Addr).block < _ from HhA.out)).trans C1.out
      have s2 := (hSw.cell HhB.out).trans C2.out
      have s3 := (hSw.cell (show (⟨ad2.block, ad2.off + 1, none⟩ : Addr).block < _ from HhB.out)).trans C3.out
      (try go_simp)
      (try with_reducible rfl)
    (try simp only [Act.put, List.setIfInBounds_toArray, List.set_cons_zero, List.set_cons_succ])
    refine wpAnyH_take (i := 3) (oi := ({ dst := some 53, op := Op.move (Operand.tmp 1), type := 29, pos := "law.go:50", after := #[], guard := none } : Oper)) (v := ?_) rfl (by kernel_rfl) (by kernel_rfl) (by kernel_rfl) (fun _ _ _ h => h) (Or.inl ⟨by rfl, ?_⟩) (by assumption) ?_
    rotate_left 1
    · intro v hSw
      replace hSw : Below w.heap.size w v := bt HbP.out HbP.out.size hSw
      have s0 := (hSw.cell HhA.out).trans C0.out
      have s1 := (hSw.cell (show (⟨ad.block, ad.off + 1, none⟩ : Addr).block < _ from HhA.out)).trans C1.out
      have s2 := (hSw.cell HhB.out).trans C2.out
      have s3 := (hSw.cell (show (⟨ad2.block, ad2.off + 1, none⟩ : Addr).block < _ from HhB.out)).trans C3.out
      (try go_simp)
      (try with_reducible rfl)
    (try simp only [Act.put, List.setIfInBounds_toArray, List.set_cons_zero, List.set_cons_succ])
    refine wpAnyH_take (i := 4) (oi := ({ dst := some 54, op := Op.indexAddr 29 (Operand.tmp 53) (Operand.const (Value.int IntKind.i64 0)), type := 0, pos := "law.go:50", after := #[{ on := 3, ground := Ground.data }], guard := none } : Oper)) (v := ?_) rfl (by kernel_rfl) (by kernel_rfl) (by kernel_rfl) (fun _ _ _ h => h) (Or.inl ⟨by rfl, ?_⟩) (by assumption) ?_
    rotate_left 1
    · intro v hSw
      replace hSw : Below w.heap.size w v := bt HbP.out HbP.out.size hSw
      have s0 := (hSw.cell HhA.out).trans C0.out
      have s1 := (hSw.cell (show (⟨ad.block, ad.off + 1, none⟩ : Addr).block < _ from HhA.out)).trans C1.out
      have s2 := (hSw.cell HhB.out).trans C2.out
      have s3 := (hSw.cell (show (⟨ad2.block, ad2.off + 1, none⟩ : Addr).block < _ from HhB.out)).trans C3.out
      (try go_simp)
      (try with_reducible rfl)
    (try simp only [Act.put, List.setIfInBounds_toArray, List.set_cons_zero, List.set_cons_succ])
    refine wpAnyH_take (i := 5) (oi := ({ dst := some 55, op := Op.load 32 (Operand.tmp 54), type := 32, pos := "law.go:50", after := #[{ on := 4, ground := Ground.data }], guard := none } : Oper)) (v := ?_) rfl (by kernel_rfl) (by kernel_rfl) (by kernel_rfl) (fun _ _ _ h => h) (Or.inl ⟨by rfl, ?_⟩) (by assumption) ?_
    rotate_left 1
    · intro v hSw
      replace hSw : Below w.heap.size w v := bt HbP.out HbP.out.size hSw
      have s0 := (hSw.cell HhA.out).trans C0.out
      have s1 := (hSw.cell (show (⟨ad.block, ad.off + 1, none⟩ : Addr).block < _ from HhA.out)).trans C1.out
      have s2 := (hSw.cell HhB.out).trans C2.out
      have s3 := (hSw.cell (show (⟨ad2.block, ad2.off + 1, none⟩ : Addr).block < _ from HhB.out)).trans C3.out
      (try go_simp)
      (try with_reducible rfl)
    (try simp only [Act.put, List.setIfInBounds_toArray, List.set_cons_zero, List.set_cons_succ])
    refine wpAnyH_ready (rs := [6, 11]) (by kernel_rfl) (by simp) ?_
    refine AllReadyH.cons (o := ({ dst := some 56, op := Op.call { callee := Callee.value (Operand.func 21), args := #[Operand.tmp 52, Operand.tmp 55], argTypes := #[32, 32] }, type := 33, pos := "law.go:50", after := #[{ on := 2, ground := Ground.data }, { on := 5, ground := Ground.data }], guard := none } : Oper)) rfl (fun K hK => ?_) (AllReadyH.cons (o := ({ dst := some 8, op := Op.alloc 32, type := 0, pos := "law.go:50", after := #[], guard := none } : Oper)) rfl (fun K hK => ?_) (AllReadyH.nil))
    · skip
      go_simp
      refine (MB.out X0).mono ?_
      rintro e W1 ⟨rfl, hc⟩
      have hb1 : Below WP.heap.size WP W1 := bt hHeld hHeld.size hc
      refine hK.out _ _ hb1 (fun _ => ?_)
      clear hK K
      (try simp only [Act.put, List.setIfInBounds_toArray, List.set_cons_zero, List.set_cons_succ])
      refine wpAnyH_take (i := 7) (oi := ({ dst := some 49, op := Op.move (Operand.tmp 56), type := 33, pos := "law.go:50", after := #[{ on := 6, ground := Ground.data }], guard := none } : Oper)) (v := ?_) rfl (by kernel_rfl) (by kernel_rfl) (by kernel_rfl) (fun _ _ _ h => h) (Or.inl ⟨by rfl, ?_⟩) (by assumption) ?_
      rotate_left 1
      · intro v hSw
        (try go_simp)
        (try with_reducible rfl)
      (try simp only [Act.put, List.setIfInBounds_toArray, List.set_cons_zero, List.set_cons_succ])
      refine wpAnyH_take (i := 8) (oi := ({ dst := some 57, op := Op.extract (Operand.tmp 49) 0, type := 32, pos := "law.go:50", after := #[{ on := 7, ground := Ground.data }], guard := none } : Oper)) (v := ?_) rfl (by kernel_rfl) (by kernel_rfl) (by kernel_rfl) (fun _ _ _ h => h) (Or.inl ⟨by rfl, ?_⟩) (by assumption) ?_
      rotate_left 1
      · intro v hSw
        (try go_simp)
        (try with_reducible rfl)
      (try simp only [Act.put, List.setIfInBounds_toArray, List.set_cons_zero, List.set_cons_succ])
      refine wpAnyH_take (i := 9) (oi := ({ dst := some 58, op := Op.extract (Operand.tmp 49) 1, type := 4, pos := "law.go:50", after := #[{ on := 7, ground := Ground.data }, { on := 12, ground := Ground.gcOnly Departure.lateStores }], guard := none } : Oper)) (v := ?_) rfl (by kernel_rfl) (by kernel_rfl) (by kernel_rfl) (fun _ _ _ h => h) (Or.inl ⟨by rfl, ?_⟩) (by assumption) ?_
      rotate_left 1
      · intro v hSw
        (try go_simp)
        (try with_reducible rfl)
      (try simp only [Act.put, List.setIfInBounds_toArray, List.set_cons_zero, List.set_cons_succ])
      refine wpAnyH_take (i := 10) (oi := ({ dst := some 59, op := Op.extract (Operand.tmp 49) 2, type := 22, pos := "law.go:50", after := #[{ on := 7, ground := Ground.data }, { on := 13, ground := Ground.gcOnly Departure.lateStores }], guard := none } : Oper)) (v := ?_) rfl (by kernel_rfl) (by kernel_rfl) (by kernel_rfl) (fun _ _ _ h => h) (Or.inl ⟨by rfl, ?_⟩) (by assumption) ?_
      rotate_left 1
      · intro v hSw
        (try go_simp)
        (try with_reducible rfl)
      (try simp only [Act.put, List.setIfInBounds_toArray, List.set_cons_zero, List.set_cons_succ])
      refine wpAnyH_ready (rs := [11]) (by kernel_rfl) (by simp) ?_
      refine AllReadyH.cons (o := ({ dst := some 8, op := Op.alloc 32, type := 0, pos := "law.go:50", after := #[], guard := none } : Oper)) rfl (fun K hK => ?_) (AllReadyH.nil)
      go_simp
      have hb2 : Below WP.heap.size WP (W1.alloc (.cells #[.int .i64 0, .int .i64 0] 32)) := bt hb1 hb1.size (below_new _ _)
      have hr2 := World.alloc_heap_new W1 (.cells #[.int .i64 0, .int .i64 0] 32)
      have hg2 := hb1.size
      generalize (W1.alloc (.cells #[.int .i64 0, .int .i64 0] 32)) = W2 at hb2 hr2 ⊢
      generalize W1.heap.size = gQ at hr2 hg2 ⊢
      refine hK.out _ _ hb2 (fun _ => ?_)
      clear hK K
      (try simp only [Act.put, List.setIfInBounds_toArray, List.set_cons_zero, List.set_cons_succ])
      refine wpAnyH_ready (rs := [12]) (by kernel_rfl) (by simp) ?_
      refine AllReadyH.cons (o := ({ dst := none, op := Op.store 32 (Operand.tmp 8) (Operand.tmp 57), type := 0, pos := "law.go:50", after := #[{ on := 11, ground := Ground.data }, { on := 8, ground := Ground.data }, { on := 6, ground := Ground.chain }, { on := 0, ground := Ground.phase }, { on := 1, ground := Ground.phase }, { on := 2, ground := Ground.phase }, { on := 3, ground := Ground.phase }, { on := 4, ground := Ground.phase }, { on := 5, ground := Ground.phase }, { on := 6, ground := Ground.phase }, { on := 7, ground := Ground.phase }, { on := 8, ground := Ground.phase }, { on := 9, ground := Ground.textOnly Departure.lateStores }, { on := 10, ground := Ground.textOnly Departure.lateStores }, { on := 11, ground := Ground.phase }], guard := none } : Oper)) rfl (fun K hK => ?_) (AllReadyH.nil)
      obtain ⟨f0, f1, f2, f3⟩ := meet_facts hr2
      go_simp
      have hrQ := set_two hr2 (.int .i64 mx) (.int .i64 my)
      have hbQ : Below WP.heap.size WP ((W2.setCell ⟨gQ, 0, none⟩ (.int .i64 mx)).setCell ⟨gQ, 1, none⟩ (.int .i64 my)) := (hb2.setCell (p := ⟨gQ, 0, none⟩) hg2 _).setCell (p := ⟨gQ, 1, none⟩) hg2 _
      generalize ((W2.setCell ⟨gQ, 0, none⟩ (.int .i64 mx)).setCell ⟨gQ, 1, none⟩ (.int .i64 my)) = WQ at hrQ hbQ ⊢
      refine hK.out _ _ hbQ (fun _ => ?_)
      clear hK K
      (try simp only [Act.put, List.setIfInBounds_toArray, List.set_cons_zero, List.set_cons_succ])
      refine wpAnyH_take (i := 13) (oi := ({ dst := some 9, op := Op.assign (Operand.tmp 58), type := 4, pos := "law.go:50", after := #[{ on := 9, ground := Ground.data }, { on := 12, ground := Ground.chain }, { on := 0, ground := Ground.phase }, { on := 1, ground := Ground.phase }, { on := 2, ground := Ground.phase }, { on := 3, ground := Ground.phase }, { on := 4, ground := Ground.phase }, { on := 5, ground := Ground.phase }, { on := 6, ground := Ground.phase }, { on := 7, ground := Ground.phase }, { on := 8, ground := Ground.phase }, { on := 9, ground := Ground.phase }, { on := 10, ground := Ground.textOnly Departure.lateStores }, { on := 11, ground := Ground.phase }, { on := 12, ground := Ground.phase }], guard := none } : Oper)) (v := ?_) rfl (by kernel_rfl) (by kernel_rfl) (by kernel_rfl) (fun _ _ _ h => h) (Or.inl ⟨by rfl, ?_⟩) (by assumption) ?_
      rotate_left 1
      · intro v hSw
        (try go_simp)
        (try with_reducible rfl)
      (try simp only [Act.put, List.setIfInBounds_toArray, List.set_cons_zero, List.set_cons_succ])
      refine wpAnyH_take (i := 14) (oi := ({ dst := some 10, op := Op.assign (Operand.tmp 59), type := 22, pos := "law.go:50", after := #[{ on := 10, ground := Ground.data }, { on := 13, ground := Ground.chain }, { on := 0, ground := Ground.phase }, { on := 1, ground := Ground.phase }, { on := 2, ground := Ground.phase }, { on := 3, ground := Ground.phase }, { on := 4, ground := Ground.phase }, { on := 5, ground := Ground.phase }, { on := 6, ground := Ground.phase }, { on := 7, ground := Ground.phase }, { on := 8, ground := Ground.phase }, { on := 9, ground := Ground.phase }, { on := 10, ground := Ground.phase }, { on := 11, ground := Ground.phase }, { on := 12, ground := Ground.phase }, { on := 13, ground := Ground.phase }], guard := none } : Oper)) (v := ?_) rfl (by kernel_rfl) (by kernel_rfl) (by kernel_rfl) (fun _ _ _ h => h) (Or.inl ⟨by rfl, ?_⟩) (by assumption) ?_
      rotate_left 1
      · intro v hSw
        (try go_simp)
        (try with_reducible rfl)
      (try simp only [Act.put, List.setIfInBounds_toArray, List.set_cons_zero, List.set_cons_succ])
      refine wpAnyH_done (by kernel_rfl) ?_ _
      refine NoPanic.normal ?_
      have hrP := (hbQ.block _ HlP.out).trans HrP.out
      replace hbQ := bt HbP.out HbP.out.size hbQ
      clear hr2 hb2 hg2 f0 f1 f2 f3 hb1 hc hHeld
      go_wp2_with fail
      refine wp_region_noPanic ?_
      refine wp_region_held_drew (S := R6 w gP gQ mx my) (by kernel_rfl) (R6.mk hbQ.drew hrP hrQ) (fun hHeld => ?_)
      generalize WQ.drew = X0 at hHeld ⊢
      refine wpAnyH_take (i := 0) (oi := ({ dst := some 60, op := Op.load 32 (Operand.tmp 5), type := 32, pos := "law.go:51", after := #[], guard := none } : Oper)) (v := ?_) rfl (by kernel_rfl) (by kernel_rfl) (by kernel_rfl) (fun _ _ _ h => h) (Or.inl ⟨by rfl, ?_⟩) (by assumption) ?_
      rotate_left 1
      · intro v hSw
        have b0 := hSw.bel
        obtain ⟨f0, f1, -, -⟩ := meet_facts hSw.r1
        obtain ⟨k0, k1, -, -⟩ := meet_facts hSw.r2
        have s0 := (b0.cell HhA.out).trans C0.out
        have s1 := (b0.cell (show (⟨ad.block, ad.off + 1, none⟩ : Addr).block < _ from HhA.out)).trans C1.out
        have s2 := (b0.cell HhB.out).trans C2.out
        have s3 := (b0.cell (show (⟨ad2.block, ad2.off + 1, none⟩ : Addr).block < _ from HhB.out)).trans C3.out
        (try go_simp)
        (try with_reducible rfl)
      (try simp only [Act.put, List.setIfInBounds_toArray, List.set_cons_zero, List.set_cons_succ])
      refine wpAnyH_take (i := 1) (oi := ({ dst := some 61, op := Op.load 32 (Operand.tmp 8), type := 32, pos := "law.go:51", after := #[], guard := none } : Oper)) (v := ?_) rfl (by kernel_rfl) (by kernel_rfl) (by kernel_rfl) (fun _ _ _ h => h) (Or.inl ⟨by rfl, ?_⟩) (by assumption) ?_
      rotate_left 1
      · intro v hSw
        have b0 := hSw.bel
        obtain ⟨f0, f1, -, -⟩ := meet_facts hSw.r1
        obtain ⟨k0, k1, -, -⟩ := meet_facts hSw.r2
        have s0 := (b0.cell HhA.out).trans C0.out
        have s1 := (b0.cell (show (⟨ad.block, ad.off + 1, none⟩ : Addr).block < _ from HhA.out)).trans C1.out
        have s2 := (b0.cell HhB.out).trans C2.out
        have s3 := (b0.cell (show (⟨ad2.block, ad2.off + 1, none⟩ : Addr).block < _ from HhB.out)).trans C3.out
        (try go_simp)
        (try with_reducible rfl)
      (try simp only [Act.put, List.setIfInBounds_toArray, List.set_cons_zero, List.set_cons_succ])
      refine wpAnyH_take (i := 2) (oi := ({ dst := some 62, op := Op.binOp BinOp.neq 32 (Operand.tmp 60) (Operand.tmp 61) 32, type := 4, pos := "law.go:51", after := #[{ on := 0, ground := Ground.data }, { on := 1, ground := Ground.data }], guard := none } : Oper)) (v := ?_) rfl (by kernel_rfl) (by kernel_rfl) (by kernel_rfl) (fun _ _ _ h => h) (Or.inl ⟨by rfl, ?_⟩) (by assumption) ?_
      rotate_left 1
      · intro v hSw
        have b0 := hSw.bel
        obtain ⟨f0, f1, -, -⟩ := meet_facts hSw.r1
        obtain ⟨k0, k1, -, -⟩ := meet_facts hSw.r2
        have s0 := (b0.cell HhA.out).trans C0.out
        have s1 := (b0.cell (show (⟨ad.block, ad.off + 1, none⟩ : Addr).block < _ from HhA.out)).trans C1.out
        have s2 := (b0.cell HhB.out).trans C2.out
        have s3 := (b0.cell (show (⟨ad2.block, ad2.off + 1, none⟩ : Addr).block < _ from HhB.out)).trans C3.out
        (try go_simp)
        (try with_reducible rfl)
      (try simp only [Act.put, List.setIfInBounds_toArray, List.set_cons_zero, List.set_cons_succ])
      refine wpAnyH_take (i := 3) (oi := ({ dst := some 63, op := Op.move (Operand.tmp 62), type := 4, pos := "law.go:51", after := #[{ on := 2, ground := Ground.data }], guard := none } : Oper)) (v := ?_) rfl (by kernel_rfl) (by kernel_rfl) (by kernel_rfl) (fun _ _ _ h => h) (Or.inl ⟨by rfl, ?_⟩) (by assumption) ?_
      rotate_left 1
      · intro v hSw
        have b0 := hSw.bel
        obtain ⟨f0, f1, -, -⟩ := meet_facts hSw.r1
        obtain ⟨k0, k1, -, -⟩ := meet_facts hSw.r2
        have s0 := (b0.cell HhA.out).trans C0.out
        have s1 := (b0.cell (show (⟨ad.block, ad.off + 1, none⟩ : Addr).block < _ from HhA.out)).trans C1.out
        have s2 := (b0.cell HhB.out).trans C2.out
        have s3 := (b0.cell (show (⟨ad2.block, ad2.off + 1, none⟩ : Addr).block < _ from HhB.out)).trans C3.out
        (try go_simp)
        (try with_reducible rfl)
      (try simp only [Act.put, List.setIfInBounds_toArray, List.set_cons_zero, List.set_cons_succ])
      refine wpAnyH_take (i := 4) (oi := ({ dst := some 64, op := Op.move (Operand.tmp 6), type := 4, pos := "law.go:51", after := #[{ on := 3, ground := Ground.guard }], guard := some (3, false) } : Oper)) (v := ?_) rfl (by kernel_rfl) (by kernel_rfl) (by kernel_rfl) (fun _ _ _ h => h) (Or.inl ⟨by rfl, ?_⟩) (by assumption) ?_
      rotate_left 1
      · intro v hSw
        have b0 := hSw.bel
        obtain ⟨f0, f1, -, -⟩ := meet_facts hSw.r1
        obtain ⟨k0, k1, -, -⟩ := meet_facts hSw.r2
        have s0 := (b0.cell HhA.out).trans C0.out
        have s1 := (b0.cell (show (⟨ad.block, ad.off + 1, none⟩ : Addr).block < _ from HhA.out)).trans C1.out
        have s2 := (b0.cell HhB.out).trans C2.out
        have s3 := (b0.cell (show (⟨ad2.block, ad2.off + 1, none⟩ : Addr).block < _ from HhB.out)).trans C3.out
        (try go_simp)
        (try with_reducible rfl)
      (try simp only [Act.put, List.setIfInBounds_toArray, List.set_cons_zero, List.set_cons_succ])
      refine wpAnyH_take (i := 5) (oi := ({ dst := some 65, op := Op.move (Operand.tmp 9), type := 4, pos := "law.go:51", after := #[{ on := 3, ground := Ground.guard }], guard := some (3, false) } : Oper)) (v := ?_) rfl (by kernel_rfl) (by kernel_rfl) (by kernel_rfl) (fun _ _ _ h => h) (Or.inl ⟨by rfl, ?_⟩) (by assumption) ?_
      rotate_left 1
      · intro v hSw
        have b0 := hSw.bel
        obtain ⟨f0, f1, -, -⟩ := meet_facts hSw.r1
        obtain ⟨k0, k1, -, -⟩ := meet_facts hSw.r2
        have s0 := (b0.cell HhA.out).trans C0.out
        have s1 := (b0.cell (show (⟨ad.block, ad.off + 1, none⟩ : Addr).block < _ from HhA.out)).trans C1.out
        have s2 := (b0.cell HhB.out).trans C2.out
        have s3 := (b0.cell (show (⟨ad2.block, ad2.off + 1, none⟩ : Addr).block < _ from HhB.out)).trans C3.out
        (try go_simp)
        (try with_reducible rfl)
      (try simp only [Act.put, List.setIfInBounds_toArray, List.set_cons_zero, List.set_cons_succ])
      refine wpAnyH_take (i := 6) (oi := ({ dst := some 66, op := Op.binOp BinOp.neq 4 (Operand.tmp 64) (Operand.tmp 65) 4, type := 4, pos := "law.go:51", after := #[{ on := 4, ground := Ground.data }, { on := 5, ground := Ground.data }, { on := 3, ground := Ground.guard }], guard := some (3, false) } : Oper)) (v := ?_) rfl (by kernel_rfl) (by kernel_rfl) (by kernel_rfl) (fun _ _ _ h => h) (Or.inl ⟨by rfl, ?_⟩) (by assumption) ?_
      rotate_left 1
      · intro v hSw
        have b0 := hSw.bel
        obtain ⟨f0, f1, -, -⟩ := meet_facts hSw.r1
        obtain ⟨k0, k1, -, -⟩ := meet_facts hSw.r2
        have s0 := (b0.cell HhA.out).trans C0.out
        have s1 := (b0.cell (show (⟨ad.block, ad.off + 1, none⟩ : Addr).block < _ from HhA.out)).trans C1.out
        have s2 := (b0.cell HhB.out).trans C2.out
        have s3 := (b0.cell (show (⟨ad2.block, ad2.off + 1, none⟩ : Addr).block < _ from HhB.out)).trans C3.out
        (try go_simp)
        (try with_reducible rfl)
      (try simp only [Act.put, List.setIfInBounds_toArray, List.set_cons_zero, List.set_cons_succ])
      refine wpAnyH_take (i := 7) (oi := ({ dst := some 67, op := Op.pick (Operand.tmp 63) (Operand.const (Value.bool true)) (Operand.tmp 66), type := 4, pos := "law.go:51", after := #[{ on := 3, ground := Ground.data }, { on := 6, ground := Ground.data }], guard := none } : Oper)) (v := ?_) rfl (by kernel_rfl) (by kernel_rfl) (by kernel_rfl) (fun _ _ _ h => h) (Or.inl ⟨by rfl, ?_⟩) (by assumption) ?_
      rotate_left 1
      · intro v hSw
        have b0 := hSw.bel
        obtain ⟨f0, f1, -, -⟩ := meet_facts hSw.r1
        obtain ⟨k0, k1, -, -⟩ := meet_facts hSw.r2
        have s0 := (b0.cell HhA.out).trans C0.out
        have s1 := (b0.cell (show (⟨ad.block, ad.off + 1, none⟩ : Addr).block < _ from HhA.out)).trans C1.out
        have s2 := (b0.cell HhB.out).trans C2.out
        have s3 := (b0.cell (show (⟨ad2.block, ad2.off + 1, none⟩ : Addr).block < _ from HhB.out)).trans C3.out
        (try go_simp)
        (try with_reducible rfl)
      (try simp only [Act.put, List.setIfInBounds_toArray, List.set_cons_zero, List.set_cons_succ])
      refine wpAnyH_take (i := 8) (oi := ({ dst := some 68, op := Op.move (Operand.tmp 67), type := 4, pos := "law.go:51", after := #[{ on := 7, ground := Ground.data }, { on := 3, ground := Ground.chain }], guard := none } : Oper)) (v := ?_) rfl (by kernel_rfl) (by kernel_rfl) (by kernel_rfl) (fun _ _ _ h => h) (Or.inl ⟨by rfl, ?_⟩) (by assumption) ?_
      rotate_left 1
      · intro v hSw
        have b0 := hSw.bel
        obtain ⟨f0, f1, -, -⟩ := meet_facts hSw.r1
        obtain ⟨k0, k1, -, -⟩ := meet_facts hSw.r2
        have s0 := (b0.cell HhA.out).trans C0.out
        have s1 := (b0.cell (show (⟨ad.block, ad.off + 1, none⟩ : Addr).block < _ from HhA.out)).trans C1.out
        have s2 := (b0.cell HhB.out).trans C2.out
        have s3 := (b0.cell (show (⟨ad2.block, ad2.off + 1, none⟩ : Addr).block < _ from HhB.out)).trans C3.out
        (try go_simp)
        (try with_reducible rfl)
      (try simp only [Act.put, List.setIfInBounds_toArray, List.set_cons_zero, List.set_cons_succ])
      refine wpAnyH_take (i := 9) (oi := ({ dst := some 69, op := Op.move (Operand.tmp 7), type := 22, pos := "law.go:51", after := #[{ on := 8, ground := Ground.guard }], guard := some (8, false) } : Oper)) (v := ?_) rfl (by kernel_rfl) (by kernel_rfl) (by kernel_rfl) (fun _ _ _ h => h) (Or.inl ⟨by rfl, ?_⟩) (by assumption) ?_
      rotate_left 1
      · intro v hSw
        have b0 := hSw.bel
        obtain ⟨f0, f1, -, -⟩ := meet_facts hSw.r1
        obtain ⟨k0, k1, -, -⟩ := meet_facts hSw.r2
        have s0 := (b0.cell HhA.out).trans C0.out
        have s1 := (b0.cell (show (⟨ad.block, ad.off + 1, none⟩ : Addr).block < _ from HhA.out)).trans C1.out
        have s2 := (b0.cell HhB.out).trans C2.out
        have s3 := (b0.cell (show (⟨ad2.block, ad2.off + 1, none⟩ : Addr).block < _ from HhB.out)).trans C3.out
        (try go_simp)
        (try with_reducible rfl)
      (try simp only [Act.put, List.setIfInBounds_toArray, List.set_cons_zero, List.set_cons_succ])
      refine wpAnyH_take (i := 10) (oi := ({ dst := some 70, op := Op.move (Operand.tmp 10), type := 22, pos := "law.go:51", after := #[{ on := 8, ground := Ground.guard }], guard := some (8, false) } : Oper)) (v := ?_) rfl (by kernel_rfl) (by kernel_rfl) (by kernel_rfl) (fun _ _ _ h => h) (Or.inl ⟨by rfl, ?_⟩) (by assumption) ?_
      rotate_left 1
      · intro v hSw
        have b0 := hSw.bel
        obtain ⟨f0, f1, -, -⟩ := meet_facts hSw.r1
        obtain ⟨k0, k1, -, -⟩ := meet_facts hSw.r2
        have s0 := (b0.cell HhA.out).trans C0.out
        have s1 := (b0.cell (show (⟨ad.block, ad.off + 1, none⟩ : Addr).block < _ from HhA.out)).trans C1.out
        have s2 := (b0.cell HhB.out).trans C2.out
        have s3 := (b0.cell (show (⟨ad2.block, ad2.off + 1, none⟩ : Addr).block < _ from HhB.out)).trans C3.out
        (try go_simp)
        (try with_reducible rfl)
      (try simp only [Act.put, List.setIfInBounds_toArray, List.set_cons_zero, List.set_cons_succ])
      refine wpAnyH_take (i := 11) (oi := ({ dst := some 71, op := Op.binOp BinOp.neq 22 (Operand.tmp 69) (Operand.tmp 70) 22, type := 4, pos := "law.go:51", after := #[{ on := 9, ground := Ground.data }, { on := 10, ground := Ground.data }, { on := 8, ground := Ground.guard }], guard := some (8, false) } : Oper)) (v := ?_) rfl (by kernel_rfl) (by kernel_rfl) (by kernel_rfl) (fun _ _ _ h => h) (Or.inl ⟨by rfl, ?_⟩) (by assumption) ?_
      rotate_left 1
      · intro v hSw
        have b0 := hSw.bel
        obtain ⟨f0, f1, -, -⟩ := meet_facts hSw.r1
        obtain ⟨k0, k1, -, -⟩ := meet_facts hSw.r2
        have s0 := (b0.cell HhA.out).trans C0.out
        have s1 := (b0.cell (show (⟨ad.block, ad.off + 1, none⟩ : Addr).block < _ from HhA.out)).trans C1.out
        have s2 := (b0.cell HhB.out).trans C2.out
        have s3 := (b0.cell (show (⟨ad2.block, ad2.off + 1, none⟩ : Addr).block < _ from HhB.out)).trans C3.out
        (try go_simp)
        (try with_reducible rfl)
      (try simp only [Act.put, List.setIfInBounds_toArray, List.set_cons_zero, List.set_cons_succ])
      refine wpAnyH_take (i := 12) (oi := ({ dst := some 72, op := Op.pick (Operand.tmp 68) (Operand.const (Value.bool true)) (Operand.tmp 71), type := 4, pos := "law.go:51", after := #[{ on := 8, ground := Ground.data }, { on := 11, ground := Ground.data }], guard := none } : Oper)) (v := ?_) rfl (by kernel_rfl) (by kernel_rfl) (by kernel_rfl) (fun _ _ _ h => h) (Or.inl ⟨by rfl, ?_⟩) (by assumption) ?_
      rotate_left 1
      · intro v hSw
        have b0 := hSw.bel
        obtain ⟨f0, f1, -, -⟩ := meet_facts hSw.r1
        obtain ⟨k0, k1, -, -⟩ := meet_facts hSw.r2
        have s0 := (b0.cell HhA.out).trans C0.out
        have s1 := (b0.cell (show (⟨ad.block, ad.off + 1, none⟩ : Addr).block < _ from HhA.out)).trans C1.out
        have s2 := (b0.cell HhB.out).trans C2.out
        have s3 := (b0.cell (show (⟨ad2.block, ad2.off + 1, none⟩ : Addr).block < _ from HhB.out)).trans C3.out
        (try go_simp)
        (try with_reducible rfl)
      (try simp only [Act.put, List.setIfInBounds_toArray, List.set_cons_zero, List.set_cons_succ])
      refine wpAnyH_take (i := 13) (oi := ({ dst := some 73, op := Op.move (Operand.tmp 72), type := 4, pos := "law.go:51", after := #[{ on := 12, ground := Ground.data }, { on := 8, ground := Ground.chain }], guard := none } : Oper)) (v := ?_) rfl (by kernel_rfl) (by kernel_rfl) (by kernel_rfl) (fun _ _ _ h => h) (Or.inl ⟨by rfl, ?_⟩) (by assumption) ?_
      rotate_left 1
      · intro v hSw
        have b0 := hSw.bel
        obtain ⟨f0, f1, -, -⟩ := meet_facts hSw.r1
        obtain ⟨k0, k1, -, -⟩ := meet_facts hSw.r2
        have s0 := (b0.cell HhA.out).trans C0.out
        have s1 := (b0.cell (show (⟨ad.block, ad.off + 1, none⟩ : Addr).block < _ from HhA.out)).trans C1.out
        have s2 := (b0.cell HhB.out).trans C2.out
        have s3 := (b0.cell (show (⟨ad2.block, ad2.off + 1, none⟩ : Addr).block < _ from HhB.out)).trans C3.out
        (try go_simp)
        (try with_reducible rfl)
      (try simp only [Act.put, List.setIfInBounds_toArray, List.set_cons_zero, List.set_cons_succ])
      refine wpAnyH_take (i := 14) (oi := ({ dst := some 74, op := Op.move (Operand.tmp 0), type := 29, pos := "law.go:51", after := #[{ on := 13, ground := Ground.guard }], guard := some (13, false) } : Oper)) (v := ?_) rfl (by kernel_rfl) (by kernel_rfl) (by kernel_rfl) (fun _ _ _ h => h) (Or.inl ⟨by rfl, ?_⟩) (by assumption) ?_
      rotate_left 1
      · intro v hSw
        have b0 := hSw.bel
        obtain ⟨f0, f1, -, -⟩ := meet_facts hSw.r1
        obtain ⟨k0, k1, -, -⟩ := meet_facts hSw.r2
        have s0 := (b0.cell HhA.out).trans C0.out
        have s1 := (b0.cell (show (⟨ad.block, ad.off + 1, none⟩ : Addr).block < _ from HhA.out)).trans C1.out
        have s2 := (b0.cell HhB.out).trans C2.out
        have s3 := (b0.cell (show (⟨ad2.block, ad2.off + 1, none⟩ : Addr).block < _ from HhB.out)).trans C3.out
        (try go_simp)
        (try with_reducible rfl)
      (try simp only [Act.put, List.setIfInBounds_toArray, List.set_cons_zero, List.set_cons_succ])
      refine wpAnyH_take (i := 15) (oi := ({ dst := some 75, op := Op.indexAddr 29 (Operand.tmp 74) (Operand.const (Value.int IntKind.i64 0)), type := 0, pos := "law.go:51", after := #[{ on := 14, ground := Ground.data }, { on := 13, ground := Ground.guard }], guard := some (13, false) } : Oper)) (v := ?_) rfl (by kernel_rfl) (by kernel_rfl) (by kernel_rfl) (fun _ _ _ h => h) (Or.inl ⟨by rfl, ?_⟩) (by assumption) ?_
      rotate_left 1
      · intro v hSw
        have b0 := hSw.bel
        obtain ⟨f0, f1, -, -⟩ := meet_facts hSw.r1
        obtain ⟨k0, k1, -, -⟩ := meet_facts hSw.r2
        have s0 := (b0.cell HhA.out).trans C0.out
        have s1 := (b0.cell (show (⟨ad.block, ad.off + 1, none⟩ : Addr).block < _ from HhA.out)).trans C1.out
        have s2 := (b0.cell HhB.out).trans C2.out
        have s3 := (b0.cell (show (⟨ad2.block, ad2.off + 1, none⟩ : Addr).block < _ from HhB.out)).trans C3.out
        (try go_simp)
        (try with_reducible rfl)
      (try simp only [Act.put, List.setIfInBounds_toArray, List.set_cons_zero, List.set_cons_succ])
      refine wpAnyH_take (i := 16) (oi := ({ dst := some 76, op := Op.load 32 (Operand.tmp 75), type := 32, pos := "law.go:51", after := #[{ on := 15, ground := Ground.data }, { on := 13, ground := Ground.guard }], guard := some (13, false) } : Oper)) (v := ?_) rfl (by kernel_rfl) (by kernel_rfl) (by kernel_rfl) (fun _ _ _ h => h) (Or.inl ⟨by rfl, ?_⟩) (by assumption) ?_
      rotate_left 1
      · intro v hSw
        have b0 := hSw.bel
        obtain ⟨f0, f1, -, -⟩ := meet_facts hSw.r1
        obtain ⟨k0, k1, -, -⟩ := meet_facts hSw.r2
        have s0 := (b0.cell HhA.out).trans C0.out
        have s1 := (b0.cell (show (⟨ad.block, ad.off + 1, none⟩ : Addr).block < _ from HhA.out)).trans C1.out
        have s2 := (b0.cell HhB.out).trans C2.out
        have s3 := (b0.cell (show (⟨ad2.block, ad2.off + 1, none⟩ : Addr).block < _ from HhB.out)).trans C3.out
        (try go_simp)
        (try with_reducible rfl)
      (try simp only [Act.put, List.setIfInBounds_toArray, List.set_cons_zero, List.set_cons_succ])
      refine wpAnyH_take (i := 18) (oi := ({ dst := some 78, op := Op.move (Operand.tmp 0), type := 29, pos := "law.go:51", after := #[{ on := 13, ground := Ground.guard }], guard := some (13, false) } : Oper)) (v := ?_) rfl (by kernel_rfl) (by kernel_rfl) (by kernel_rfl) (fun _ _ _ h => h) (Or.inl ⟨by rfl, ?_⟩) (by assumption) ?_
      rotate_left 1
      · intro v hSw
        have b0 := hSw.bel
        obtain ⟨f0, f1, -, -⟩ := meet_facts hSw.r1
        obtain ⟨k0, k1, -, -⟩ := meet_facts hSw.r2
        have s0 := (b0.cell HhA.out).trans C0.out
        have s1 := (b0.cell (show (⟨ad.block, ad.off + 1, none⟩ : Addr).block < _ from HhA.out)).trans C1.out
        have s2 := (b0.cell HhB.out).trans C2.out
        have s3 := (b0.cell (show (⟨ad2.block, ad2.off + 1, none⟩ : Addr).block < _ from HhB.out)).trans C3.out
        (try go_simp)
        (try with_reducible rfl)
      (try simp only [Act.put, List.setIfInBounds_toArray, List.set_cons_zero, List.set_cons_succ])
      refine wpAnyH_take (i := 19) (oi := ({ dst := some 79, op := Op.indexAddr 29 (Operand.tmp 78) (Operand.const (Value.int IntKind.i64 0)), type := 0, pos := "law.go:51", after := #[{ on := 18, ground := Ground.data }, { on := 13, ground := Ground.guard }], guard := some (13, false) } : Oper)) (v := ?_) rfl (by kernel_rfl) (by kernel_rfl) (by kernel_rfl) (fun _ _ _ h => h) (Or.inl ⟨by rfl, ?_⟩) (by assumption) ?_
      rotate_left 1
      · intro v hSw
        have b0 := hSw.bel
        obtain ⟨f0, f1, -, -⟩ := meet_facts hSw.r1
        obtain ⟨k0, k1, -, -⟩ := meet_facts hSw.r2
        have s0 := (b0.cell HhA.out).trans C0.out
        have s1 := (b0.cell (show (⟨ad.block, ad.off + 1, none⟩ : Addr).block < _ from HhA.out)).trans C1.out
        have s2 := (b0.cell HhB.out).trans C2.out
        have s3 := (b0.cell (show (⟨ad2.block, ad2.off + 1, none⟩ : Addr).block < _ from HhB.out)).trans C3.out
        (try go_simp)
        (try with_reducible rfl)
      (try simp only [Act.put, List.setIfInBounds_toArray, List.set_cons_zero, List.set_cons_succ])
      refine wpAnyH_take (i := 20) (oi := ({ dst := some 80, op := Op.load 32 (Operand.tmp 79), type := 32, pos := "law.go:51", after := #[{ on := 19, ground := Ground.data }, { on := 13, ground := Ground.guard }], guard := some (13, false) } : Oper)) (v := ?_) rfl (by kernel_rfl) (by kernel_rfl) (by kernel_rfl) (fun _ _ _ h => h) (Or.inl ⟨by rfl, ?_⟩) (by assumption) ?_
      rotate_left 1
      · intro v hSw
        have b0 := hSw.bel
        obtain ⟨f0, f1, -, -⟩ := meet_facts hSw.r1
        obtain ⟨k0, k1, -, -⟩ := meet_facts hSw.r2
        have s0 := (b0.cell HhA.out).trans C0.out
        have s1 := (b0.cell (show (⟨ad.block, ad.off + 1, none⟩ : Addr).block < _ from HhA.out)).trans C1.out
        have s2 := (b0.cell HhB.out).trans C2.out
        have s3 := (b0.cell (show (⟨ad2.block, ad2.off + 1, none⟩ : Addr).block < _ from HhB.out)).trans C3.out
        (try go_simp)
        (try with_reducible rfl)
      (try simp only [Act.put, List.setIfInBounds_toArray, List.set_cons_zero, List.set_cons_succ])
      refine wpAnyH_ready (rs := [17]) (by kernel_rfl) (by simp) ?_
      refine AllReadyH.cons (o := ({ dst := some 77, op := Op.call { callee := Callee.value (Operand.func 22), args := #[Operand.tmp 76], argTypes := #[32] }, type := 22, pos := "law.go:51", after := #[{ on := 16, ground := Ground.data }, { on := 13, ground := Ground.chain }, { on := 13, ground := Ground.guard }], guard := some (13, false) } : Oper)) rfl (fun K hK => ?_) (AllReadyH.nil)
      go_simp
      refine (K1.out X0).mono ?_
      rintro e X1 ⟨rfl, hc⟩
      have hH1 := hHeld.on hc
      refine hK.out _ _ hH1 (fun _ => ?_)
      clear hK K
      (try simp only [Act.put, List.setIfInBounds_toArray, List.set_cons_zero, List.set_cons_succ])
      refine wpAnyH_ready (rs := [21]) (by kernel_rfl) (by simp) ?_
      refine AllReadyH.cons (o := ({ dst := some 81, op := Op.call { callee := Callee.value (Operand.func 23), args := #[Operand.tmp 80], argTypes := #[32] }, type := 22, pos := "law.go:51", after := #[{ on := 20, ground := Ground.data }, { on := 17, ground := Ground.chain }, { on := 13, ground := Ground.guard }], guard := some (13, false) } : Oper)) rfl (fun K hK => ?_) (AllReadyH.nil)
      go_simp
      refine (K2.out X1).mono ?_
      rintro e W6 ⟨rfl, hc'⟩
      have hH2 := hH1.on hc'
      refine hK.out _ _ hH2 (fun _ => ?_)
      clear hK K
      (try simp only [Act.put, List.setIfInBounds_toArray, List.set_cons_zero, List.set_cons_succ])
      refine wpAnyH_take (i := 22) (oi := ({ dst := some 82, op := Op.binOp BinOp.neq 22 (Operand.tmp 77) (Operand.tmp 81) 22, type := 4, pos := "law.go:51", after := #[{ on := 17, ground := Ground.data }, { on := 21, ground := Ground.data }, { on := 13, ground := Ground.guard }], guard := some (13, false) } : Oper)) (v := ?_) rfl (by kernel_rfl) (by kernel_rfl) (by kernel_rfl) (fun _ _ _ h => h) (Or.inl ⟨by rfl, ?_⟩) (by assumption) ?_
      rotate_left 1
      · intro v hSw
        (try go_simp)
        (try with_reducible rfl)
      (try simp only [Act.put, List.setIfInBounds_toArray, List.set_cons_zero, List.set_cons_succ])
      refine wpAnyH_take (i := 23) (oi := ({ dst := some 83, op := Op.pick (Operand.tmp 73) (Operand.const (Value.bool true)) (Operand.tmp 82), type := 4, pos := "law.go:51", after := #[{ on := 13, ground := Ground.data }, { on := 22, ground := Ground.data }], guard := none } : Oper)) (v := ?_) rfl (by kernel_rfl) (by kernel_rfl) (by kernel_rfl) (fun _ _ _ h => h) (Or.inl ⟨by rfl, ?_⟩) (by assumption) ?_
      rotate_left 1
      · intro v hSw
        (try go_simp)
        (try with_reducible rfl)
      (try simp only [Act.put, List.setIfInBounds_toArray, List.set_cons_zero, List.set_cons_succ])
      refine wpAnyH_done (by kernel_rfl) ?_ _
      refine NoPanic.normal ?_
      have hb0 := hH2.bel
      clear hHeld hH1 hH2 hc hc' hrP hrQ hbQ
      go_wp2_with fail
      refine (U1.out W6 (HA.out.on hb0)).mono ?_
      intro e w1 hp
      obtain ⟨Au, cu, Mu, u, rfl, hsu, hmu, hcu, hnu, hb⟩ := hp.rd G1.out
      have hb1 := bt hb0 hb0.size hb
      clear hb
      have HSu := Lib.hid hsu
      have Hmu := Lib.hid hmu
      have Hcu := Lib.hid hcu
      have Hnu := Lib.hid hnu
      clear hp hsu hmu hcu hnu
      go_wp2_with fail
      refine (U2.out w1 (HA.out.on hb1)).mono ?_
      intro e w2 hp
      obtain ⟨Av, cv, Mv, u', rfl, hsv, hmv, hcv, hnv, hb⟩ := hp.rd G1.out
      have hb2 := bt hb1 hb1.size hb
      have heq := T.same_lists Hcu.out Hnu.out hcv hnv
      have hmm : Mv = Mu := by rw [← hmv, ← Hmu.out, heq]
      rw [← heq] at hsv
      rw [hmm]
      have HSu2 := Lib.hid (HSu.out.on hb)
      have HSv2 := Lib.hid hsv
      clear hp hsv hmv hcv hnv hb hb1 heq hmm HSu
      go_wp2_with fail
      refine (M1.out w2 (HA.out.on hb2) (HB.out.on hb2)).mono ?_
      intro e w3 hp
      obtain ⟨Am, cm, Mm, r, rfl, hsm, hmm, hcm', hnm, hb⟩ := hp.rd G2.out
      have hb3 := bt hb2 hb2.size hb
      have HSu3 := Lib.hid (HSu2.out.on hb)
      have HSv3 := Lib.hid (HSv2.out.on hb)
      have HSm3 := Lib.hid hsm
      have Hmm := Lib.hid hmm
      have Hcm := Lib.hid hcm'
      have Hnm := Lib.hid hnm
      clear hp hsm hmm hcm' hnm hb hb2 HSu2 HSv2
      go_wp2_with fail
      refine (M2.out w3 (HA.out.on hb3) (HB.out.on hb3)).mono ?_
      intro e w4 hp
      obtain ⟨An, cn, Mn, r', rfl, hsn, hmn, hcn, hnn, hb⟩ := hp.rd G2.out
      have hb4 := bt hb3 hb3.size hb
      have heq := T.same_lists Hcm.out Hnm.out hcn hnn
      have hme : Mn = Mm := by rw [← hmn, ← Hmm.out, heq]
      rw [← heq] at hsn
      rw [hme]
      have HSu4 := Lib.hid (HSu3.out.on hb)
      have HSv4 := Lib.hid (HSv3.out.on hb)
      have HSm4 := Lib.hid (HSm3.out.on hb)
      have HSn4 := Lib.hid hsn
      clear hp hsn hmn hcn hnn hb hb3 heq hme HSu3 HSv3 HSm3
      go_wp2_with fail
      refine (T1.out w4 (HA.out.on hb4)).mono ?_
      rintro e w5 ⟨V, he, k1, k2, hb⟩
      unfold T.pr at he
      subst he
      have hb5 := bt hb4 hb4.size hb
      have K1 := Lib.hid k1
      have K2 := Lib.hid k2
      have HSu5 := Lib.hid (HSu4.out.on hb)
      have HSv5 := Lib.hid (HSv4.out.on hb)
      have HSm5 := Lib.hid (HSm4.out.on hb)
      have HSn5 := Lib.hid (HSn4.out.on hb)
      clear k1 k2 hb hb4 HSu4 HSv4 HSm4 HSn4
      go_wp2_with fail
      refine (T2.out w5 (HA.out.on hb5)).mono ?_
      rintro e w6 ⟨V', he, k1, k2, hb⟩
      unfold T.pr at he
      subst he
      have hb6 := bt hb5 hb5.size hb
      have heq := T.same_sums K1.out K2.out k1 k2
      rw [← heq]
      have HSu6 := Lib.hid (HSu5.out.on hb)
      have HSv6 := Lib.hid (HSv5.out.on hb)
      have HSm6 := Lib.hid (HSm5.out.on hb)
      have HSn6 := Lib.hid (HSn5.out.on hb)
      clear k1 k2 hb hb5 heq HSu5 HSv5 HSm5 HSn5
      go_wp2_with fail
      refine (RSame_eq Au Av cu cv Mu u w6 HSu6.out HSv6.out Hmu.out).mono ?_
      rintro e w7 ⟨rfl, hb⟩
      have hb7 := bt hb6 hb6.size hb
      have HSm7 := Lib.hid (HSm6.out.on hb)
      have HSn7 := Lib.hid (HSn6.out.on hb)
      clear hb hb6 HSu6 HSv6 HSm6 HSn6
      go_wp2_with fail
      refine (RSame_eq Am An cm cn Mm r w7 HSm7.out HSn7.out Hmm.out).mono ?_
      rintro e w8 ⟨rfl, hb⟩
      have hb8 := bt hb7 hb7.size hb
      have HW := Lib.hid (awake_any w8 (HT.out.on hb8))
      clear hb hb7 HSm7 HSn7
      go_wp2_with fail
      refine HW.out.mono ?_
      rintro e w9 ⟨rfl, hb⟩
      have hb9 := bt hb8 hb8.size hb
      go_wp2_with fail
      go_ret
      exact ⟨rfl, hb9⟩
    · skip
      go_simp
      have hb1 : Below WP.heap.size WP (X0.alloc (.cells #[.int .i64 0, .int .i64 0] 32)) := bt hHeld hHeld.size (below_new _ _)
      have hr1 := World.alloc_heap_new X0 (.cells #[.int .i64 0, .int .i64 0] 32)
      have hl1 : X0.heap.size < (X0.alloc (.cells #[.int .i64 0, .int .i64 0] 32)).heap.size := by simp
      have hg2 := hHeld.size
      generalize (X0.alloc (.cells #[.int .i64 0, .int .i64 0] 32)) = X1 at hb1 hr1 hl1 ⊢
      generalize X0.heap.size = gQ at hr1 hl1 hg2 ⊢
      refine hK.out _ _ hb1 (fun _ => ?_)
      clear hK K
      (try simp only [Act.put, List.setIfInBounds_toArray, List.set_cons_zero, List.set_cons_succ])
      refine wpAnyH_ready (rs := [6]) (by kernel_rfl) (by simp) ?_
      refine AllReadyH.cons (o := ({ dst := some 56, op := Op.call { callee := Callee.value (Operand.func 21), args := #[Operand.tmp 52, Operand.tmp 55], argTypes := #[32, 32] }, type := 33, pos := "law.go:50", after := #[{ on := 2, ground := Ground.data }, { on := 5, ground := Ground.data }], guard := none } : Oper)) rfl (fun K hK => ?_) (AllReadyH.nil)
      go_simp
      refine (MB.out X1).mono ?_
      rintro e W1 ⟨rfl, hc⟩
      have hb2 : Below WP.heap.size WP W1 := bt hb1 hb1.size hc
      have hr2 := (hc.block _ hl1).trans hr1
      generalize W1 = W2 at hb2 hr2 ⊢
      refine hK.out _ _ hb2 (fun _ => ?_)
      clear hK K
      (try simp only [Act.put, List.setIfInBounds_toArray, List.set_cons_zero, List.set_cons_succ])
      refine wpAnyH_take (i := 7) (oi := ({ dst := some 49, op := Op.move (Operand.tmp 56), type := 33, pos := "law.go:50", after := #[{ on := 6, ground := Ground.data }], guard := none } : Oper)) (v := ?_) rfl (by kernel_rfl) (by kernel_rfl) (by kernel_rfl) (fun _ _ _ h => h) (Or.inl ⟨by rfl, ?_⟩) (by assumption) ?_
      rotate_left 1
      · intro v hSw
        (try go_simp)
        (try with_reducible rfl)
      (try simp only [Act.put, List.setIfInBounds_toArray, List.set_cons_zero, List.set_cons_succ])
      refine wpAnyH_take (i := 8) (oi := ({ dst := some 57, op := Op.extract (Operand.tmp 49) 0, type := 32, pos := "law.go:50", after := #[{ on := 7, ground := Ground.data }], guard := none } : Oper)) (v := ?_) rfl (by kernel_rfl) (by kernel_rfl) (by kernel_rfl) (fun _ _ _ h => h) (Or.inl ⟨by rfl, ?_⟩) (by assumption) ?_
      rotate_left 1
      · intro v hSw
        (try go_simp)
        (try with_reducible rfl)
      (try simp only [Act.put, List.setIfInBounds_toArray, List.set_cons_zero, List.set_cons_succ])
      refine wpAnyH_take (i := 9) (oi := ({ dst := some 58, op := Op.extract (Operand.tmp 49) 1, type := 4, pos := "law.go:50", after := #[{ on := 7, ground := Ground.data }, { on := 12, ground := Ground.gcOnly Departure.lateStores }], guard := none } : Oper)) (v := ?_) rfl (by kernel_rfl) (by kernel_rfl) (by kernel_rfl) (fun _ _ _ h => h) (Or.inl ⟨by rfl, ?_⟩) (by assumption) ?_
      rotate_left 1
      · intro v hSw
        (try go_simp)
        (try with_reducible rfl)
      (try simp only [Act.put, List.setIfInBounds_toArray, List.set_cons_zero, List.set_cons_succ])
      refine wpAnyH_take (i := 10) (oi := ({ dst := some 59, op := Op.extract (Operand.tmp 49) 2, type := 22, pos := "law.go:50", after := #[{ on := 7, ground := Ground.data }, { on := 13, ground := Ground.gcOnly Departure.lateStores }], guard := none } : Oper)) (v := ?_) rfl (by kernel_rfl) (by kernel_rfl) (by kernel_rfl) (fun _ _ _ h => h) (Or.inl ⟨by rfl, ?_⟩) (by assumption) ?_
      rotate_left 1
      · intro v hSw
        (try go_simp)
        (try with_reducible rfl)
      (try simp only [Act.put, List.setIfInBounds_toArray, List.set_cons_zero, List.set_cons_succ])
      refine wpAnyH_ready (rs := [12]) (by kernel_rfl) (by simp) ?_
      refine AllReadyH.cons (o := ({ dst := none, op := Op.store 32 (Operand.tmp 8) (Operand.tmp 57), type := 0, pos := "law.go:50", after := #[{ on := 11, ground := Ground.data }, { on := 8, ground := Ground.data }, { on := 6, ground := Ground.chain }, { on := 0, ground := Ground.phase }, { on := 1, ground := Ground.phase }, { on := 2, ground := Ground.phase }, { on := 3, ground := Ground.phase }, { on := 4, ground := Ground.phase }, { on := 5, ground := Ground.phase }, { on := 6, ground := Ground.phase }, { on := 7, ground := Ground.phase }, { on := 8, ground := Ground.phase }, { on := 9, ground := Ground.textOnly Departure.lateStores }, { on := 10, ground := Ground.textOnly Departure.lateStores }, { on := 11, ground := Ground.phase }], guard := none } : Oper)) rfl (fun K hK => ?_) (AllReadyH.nil)
      obtain ⟨f0, f1, f2, f3⟩ := meet_facts hr2
      go_simp
      have hrQ := set_two hr2 (.int .i64 mx) (.int .i64 my)
      have hbQ : Below WP.heap.size WP ((W2.setCell ⟨gQ, 0, none⟩ (.int .i64 mx)).setCell ⟨gQ, 1, none⟩ (.int .i64 my)) := (hb2.setCell (p := ⟨gQ, 0, none⟩) hg2 _).setCell (p := ⟨gQ, 1, none⟩) hg2 _
      generalize ((W2.setCell ⟨gQ, 0, none⟩ (.int .i64 mx)).setCell ⟨gQ, 1, none⟩ (.int .i64 my)) = WQ at hrQ hbQ ⊢
      refine hK.out _ _ hbQ (fun _ => ?_)
      clear hK K
      (try simp only [Act.put, List.setIfInBounds_toArray, List.set_cons_zero, List.set_cons_succ])
      refine wpAnyH_take (i := 13) (oi := ({ dst := some 9, op := Op.assign (Operand.tmp 58), type := 4, pos := "law.go:50", after := #[{ on := 9, ground := Ground.data }, { on := 12, ground := Ground.chain }, { on := 0, ground := Ground.phase }, { on := 1, ground := Ground.phase }, { on := 2, ground := Ground.phase }, { on := 3, ground := Ground.phase }, { on := 4, ground := Ground.phase }, { on := 5, ground := Ground.phase }, { on := 6, ground := Ground.phase }, { on := 7, ground := Ground.phase }, { on := 8, ground := Ground.phase }, { on := 9, ground := Ground.phase }, { on := 10, ground := Ground.textOnly Departure.lateStores }, { on := 11, ground := Ground.phase }, { on := 12, ground := Ground.phase }], guard := none } : Oper)) (v := ?_) rfl (by kernel_rfl) (by kernel_rfl) (by kernel_rfl) (fun _ _ _ h => h) (Or.inl ⟨by rfl, ?_⟩) (by assumption) ?_
      rotate_left 1
      · intro v hSw
        (try go_simp)
        (try with_reducible rfl)
      (try simp only [Act.put, List.setIfInBounds_toArray, List.set_cons_zero, List.set_cons_succ])
      refine wpAnyH_take (i := 14) (oi := ({ dst := some 10, op := Op.assign (Operand.tmp 59), type := 22, pos := "law.go:50", after := #[{ on := 10, ground := Ground.data }, { on := 13, ground := Ground.chain }, { on := 0, ground := Ground.phase }, { on := 1, ground := Ground.phase }, { on := 2, ground := Ground.phase }, { on := 3, ground := Ground.phase }, { on := 4, ground := Ground.phase }, { on := 5, ground := Ground.phase }, { on := 6, ground := Ground.phase }, { on := 7, ground := Ground.phase }, { on := 8, ground := Ground.phase }, { on := 9, ground := Ground.phase }, { on := 10, ground := Ground.phase }, { on := 11, ground := Ground.phase }, { on := 12, ground := Ground.phase }, { on := 13, ground := Ground.phase }], guard := none } : Oper)) (v := ?_) rfl (by kernel_rfl) (by kernel_rfl) (by kernel_rfl) (fun _ _ _ h => h) (Or.inl ⟨by rfl, ?_⟩) (by assumption) ?_
      rotate_left 1
      · intro v hSw
        (try go_simp)
        (try with_reducible rfl)
      (try simp only [Act.put, List.setIfInBounds_toArray, List.set_cons_zero, List.set_cons_succ])
      refine wpAnyH_done (by kernel_rfl) ?_ _
      refine NoPanic.normal ?_
      have hrP := (hbQ.block _ HlP.out).trans HrP.out
      replace hbQ := bt HbP.out HbP.out.size hbQ
      clear hr2 hb2 hg2 f0 f1 f2 f3 hb1 hc hHeld
      go_wp2_with fail
      refine wp_region_noPanic ?_
      refine wp_region_held_drew (S := R6 w gP gQ mx my) (by kernel_rfl) (R6.mk hbQ.drew hrP hrQ) (fun hHeld => ?_)
      generalize WQ.drew = X0 at hHeld ⊢
      refine wpAnyH_take (i := 0) (oi := ({ dst := some 60, op := Op.load 32 (Operand.tmp 5), type := 32, pos := "law.go:51", after := #[], guard := none } : Oper)) (v := ?_) rfl (by kernel_rfl) (by kernel_rfl) (by kernel_rfl) (fun _ _ _ h => h) (Or.inl ⟨by rfl, ?_⟩) (by assumption) ?_
      rotate_left 1
      · intro v hSw
        have b0 := hSw.bel
        obtain ⟨f0, f1, -, -⟩ := meet_facts hSw.r1
        obtain ⟨k0, k1, -, -⟩ := meet_facts hSw.r2
        have s0 := (b0.cell HhA.out).trans C0.out
        have s1 := (b0.cell (show (⟨ad.block, ad.off + 1, none⟩ : Addr).block < _ from HhA.out)).trans C1.out
        have s2 := (b0.cell HhB.out).trans C2.out
        have s3 := (b0.cell (show (⟨ad2.block, ad2.off + 1, none⟩ : Addr).block < _ from HhB.out)).trans C3.out
        (try go_simp)
        (try with_reducible rfl)
      (try simp only [Act.put, List.setIfInBounds_toArray, List.set_cons_zero, List.set_cons_succ])
      refine wpAnyH_take (i := 1) (oi := ({ dst := some 61, op := Op.load 32 (Operand.tmp 8), type := 32, pos := "law.go:51", after := #[], guard := none } : Oper)) (v := ?_) rfl (by kernel_rfl) (by kernel_rfl) (by kernel_rfl) (fun _ _ _ h => h) (Or.inl ⟨by rfl, ?_⟩) (by assumption) ?_
      rotate_left 1
      · intro v hSw
        have b0 := hSw.bel
        obtain ⟨f0, f1, -, -⟩ := meet_facts hSw.r1
        obtain ⟨k0, k1, -, -⟩ := meet_facts hSw.r2
        have s0 := (b0.cell HhA.out).trans C0.out
        have s1 := (b0.cell (show (⟨ad.block, ad.off + 1, none⟩ : Addr).block < _ from HhA.out)).trans C1.out
        have s2 := (b0.cell HhB.out).trans C2.out
        have s3 := (b0.cell (show (⟨ad2.block, ad2.off + 1, none⟩ : Addr).block < _ from HhB.out)).trans C3.out
        (try go_simp)
        (try with_reducible rfl)
      (try simp only [Act.put, List.setIfInBounds_toArray, List.set_cons_zero, List.set_cons_succ])
      refine wpAnyH_take (i := 2) (oi := ({ dst := some 62, op := Op.binOp BinOp.neq 32 (Operand.tmp 60) (Operand.tmp 61) 32, type := 4, pos := "law.go:51", after := #[{ on := 0, ground := Ground.data }, { on := 1, ground := Ground.data }], guard := none } : Oper)) (v := ?_) rfl (by kernel_rfl) (by kernel_rfl) (by kernel_rfl) (fun _ _ _ h => h) (Or.inl ⟨by rfl, ?_⟩) (by assumption) ?_
      rotate_left 1
      · intro v hSw
        have b0 := hSw.bel
        obtain ⟨f0, f1, -, -⟩ := meet_facts hSw.r1
        obtain ⟨k0, k1, -, -⟩ := meet_facts hSw.r2
        have s0 := (b0.cell HhA.out).trans C0.out
        have s1 := (b0.cell (show (⟨ad.block, ad.off + 1, none⟩ : Addr).block < _ from HhA.out)).trans C1.out
        have s2 := (b0.cell HhB.out).trans C2.out
        have s3 := (b0.cell (show (⟨ad2.block, ad2.off + 1, none⟩ : Addr).block < _ from HhB.out)).trans C3.out
        (try go_simp)
        (try with_reducible rfl)
      (try simp only [Act.put, List.setIfInBounds_toArray, List.set_cons_zero, List.set_cons_succ])
      refine wpAnyH_take (i := 3) (oi := ({ dst := some 63, op := Op.move (Operand.tmp 62), type := 4, pos := "law.go:51", after := #[{ on := 2, ground := Ground.data }], guard := none } : Oper)) (v := ?_) rfl (by kernel_rfl) (by kernel_rfl) (by kernel_rfl) (fun _ _ _ h => h) (Or.inl ⟨by rfl, ?_⟩) (by assumption) ?_
      rotate_left 1
      · intro v hSw
        have b0 := hSw.bel
        obtain ⟨f0, f1, -, -⟩ := meet_facts hSw.r1
        obtain ⟨k0, k1, -, -⟩ := meet_facts hSw.r2
        have s0 := (b0.cell HhA.out).trans C0.out
        have s1 := (b0.cell (show (⟨ad.block, ad.off + 1, none⟩ : Addr).block < _ from HhA.out)).trans C1.out
        have s2 := (b0.cell HhB.out).trans C2.out
        have s3 := (b0.cell (show (⟨ad2.block, ad2.off + 1, none⟩ : Addr).block < _ from HhB.out)).trans C3.out
        (try go_simp)
        (try with_reducible rfl)
      (try simp only [Act.put, List.setIfInBounds_toArray, List.set_cons_zero, List.set_cons_succ])
      refine wpAnyH_take (i := 4) (oi := ({ dst := some 64, op := Op.move (Operand.tmp 6), type := 4, pos := "law.go:51", after := #[{ on := 3, ground := Ground.guard }], guard := some (3, false) } : Oper)) (v := ?_) rfl (by kernel_rfl) (by kernel_rfl) (by kernel_rfl) (fun _ _ _ h => h) (Or.inl ⟨by rfl, ?_⟩) (by assumption) ?_
      rotate_left 1
      · intro v hSw
        have b0 := hSw.bel
        obtain ⟨f0, f1, -, -⟩ := meet_facts hSw.r1
        obtain ⟨k0, k1, -, -⟩ := meet_facts hSw.r2
        have s0 := (b0.cell HhA.out).trans C0.out
        have s1 := (b0.cell (show (⟨ad.block, ad.off + 1, none⟩ : Addr).block < _ from HhA.out)).trans C1.out
        have s2 := (b0.cell HhB.out).trans C2.out
        have s3 := (b0.cell (show (⟨ad2.block, ad2.off + 1, none⟩ : Addr).block < _ from HhB.out)).trans C3.out
        (try go_simp)
        (try with_reducible rfl)
      (try simp only [Act.put, List.setIfInBounds_toArray, List.set_cons_zero, List.set_cons_succ])
      refine wpAnyH_take (i := 5) (oi := ({ dst := some 65, op := Op.move (Operand.tmp 9), type := 4, pos := "law.go:51", after := #[{ on := 3, ground := Ground.guard }], guard := some (3, false) } : Oper)) (v := ?_) rfl (by kernel_rfl) (by kernel_rfl) (by kernel_rfl) (fun _ _ _ h => h) (Or.inl ⟨by rfl, ?_⟩) (by assumption) ?_
      rotate_left 1
      · intro v hSw
        have b0 := hSw.bel
        obtain ⟨f0, f1, -, -⟩ := meet_facts hSw.r1
        obtain ⟨k0, k1, -, -⟩ := meet_facts hSw.r2
        have s0 := (b0.cell HhA.out).trans C0.out
        have s1 := (b0.cell (show (⟨ad.block, ad.off + 1, none⟩ : Addr).block < _ from HhA.out)).trans C1.out
        have s2 := (b0.cell HhB.out).trans C2.out
        have s3 := (b0.cell (show (⟨ad2.block, ad2.off + 1, none⟩ : Addr).block < _ from HhB.out)).trans C3.out
        (try go_simp)
        (try with_reducible rfl)
      (try simp only [Act.put, List.setIfInBounds_toArray, List.set_cons_zero, List.set_cons_succ])
      refine wpAnyH_take (i := 6) (oi := ({ dst := some 66, op := Op.binOp BinOp.neq 4 (Operand.tmp 64) (Operand.tmp 65) 4, type := 4, pos := "law.go:51", after := #[{ on := 4, ground := Ground.data }, { on := 5, ground := Ground.data }, { on := 3, ground := Ground.guard }], guard := some (3, false) } : Oper)) (v := ?_) rfl (by kernel_rfl) (by kernel_rfl) (by kernel_rfl) (fun _ _ _ h => h) (Or.inl ⟨by rfl, ?_⟩) (by assumption) ?_
      rotate_left 1
      · intro v hSw
        have b0 := hSw.bel
        obtain ⟨f0, f1, -, -⟩ := meet_facts hSw.r1
        obtain ⟨k0, k1, -, -⟩ := meet_facts hSw.r2
        have s0 := (b0.cell HhA.out).trans C0.out
        have s1 := (b0.cell (show (⟨ad.block, ad.off + 1, none⟩ : Addr).block < _ from HhA.out)).trans C1.out
        have s2 := (b0.cell HhB.out).trans C2.out
        have s3 := (b0.cell (show (⟨ad2.block, ad2.off + 1, none⟩ : Addr).block < _ from HhB.out)).trans C3.out
        (try go_simp)
        (try with_reducible rfl)
      (try simp only [Act.put, List.setIfInBounds_toArray, List.set_cons_zero, List.set_cons_succ])
      refine wpAnyH_take (i := 7) (oi := ({ dst := some 67, op := Op.pick (Operand.tmp 63) (Operand.const (Value.bool true)) (Operand.tmp 66), type := 4, pos := "law.go:51", after := #[{ on := 3, ground := Ground.data }, { on := 6, ground := Ground.data }], guard := none } : Oper)) (v := ?_) rfl (by kernel_rfl) (by kernel_rfl) (by kernel_rfl) (fun _ _ _ h => h) (Or.inl ⟨by rfl, ?_⟩) (by assumption) ?_
      rotate_left 1
      · intro v hSw
        have b0 := hSw.bel
        obtain ⟨f0, f1, -, -⟩ := meet_facts hSw.r1
        obtain ⟨k0, k1, -, -⟩ := meet_facts hSw.r2
        have s0 := (b0.cell HhA.out).trans C0.out
        have s1 := (b0.cell (show (⟨ad.block, ad.off + 1, none⟩ : Addr).block < _ from HhA.out)).trans C1.out
        have s2 := (b0.cell HhB.out).trans C2.out
        have s3 := (b0.cell (show (⟨ad2.block, ad2.off + 1, none⟩ : Addr).block < _ from HhB.out)).trans C3.out
        (try go_simp)
        (try with_reducible rfl)
      (try simp only [Act.put, List.setIfInBounds_toArray, List.set_cons_zero, List.set_cons_succ])
      refine wpAnyH_take (i := 8) (oi := ({ dst := some 68, op := Op.move (Operand.tmp 67), type := 4, pos := "law.go:51", after := #[{ on := 7, ground := Ground.data }, { on := 3, ground := Ground.chain }], guard := none } : Oper)) (v := ?_) rfl (by kernel_rfl) (by kernel_rfl) (by kernel_rfl) (fun _ _ _ h => h) (Or.inl ⟨by rfl, ?_⟩) (by assumption) ?_
      rotate_left 1
      · intro v hSw
        have b0 := hSw.bel
        obtain ⟨f0, f1, -, -⟩ := meet_facts hSw.r1
        obtain ⟨k0, k1, -, -⟩ := meet_facts hSw.r2
        have s0 := (b0.cell HhA.out).trans C0.out
        have s1 := (b0.cell (show (⟨ad.block, ad.off + 1, none⟩ : Addr).block < _ from HhA.out)).trans C1.out
        have s2 := (b0.cell HhB.out).trans C2.out
        have s3 := (b0.cell (show (⟨ad2.block, ad2.off + 1, none⟩ : Addr).block < _ from HhB.out)).trans C3.out
        (try go_simp)
        (try with_reducible rfl)
      (try simp only [Act.put, List.setIfInBounds_toArray, List.set_cons_zero, List.set_cons_succ])
      refine wpAnyH_take (i := 9) (oi := ({ dst := some 69, op := Op.move (Operand.tmp 7), type := 22, pos := "law.go:51", after := #[{ on := 8, ground := Ground.guard }], guard := some (8, false) } : Oper)) (v := ?_) rfl (by kernel_rfl) (by kernel_rfl) (by kernel_rfl) (fun _ _ _ h => h) (Or.inl ⟨by rfl, ?_⟩) (by assumption) ?_
      rotate_left 1
      · intro v hSw
        have b0 := hSw.bel
        obtain ⟨f0, f1, -, -⟩ := meet_facts hSw.r1
        obtain ⟨k0, k1, -, -⟩ := meet_facts hSw.r2
        have s0 := (b0.cell HhA.out).trans C0.out
        have s1 := (b0.cell (show (⟨ad.block, ad.off + 1, none⟩ : Addr).block < _ from HhA.out)).trans C1.out
        have s2 := (b0.cell HhB.out).trans C2.out
        have s3 := (b0.cell (show (⟨ad2.block, ad2.off + 1, none⟩ : Addr).block < _ from HhB.out)).trans C3.out
        (try go_simp)
        (try with_reducible rfl)
      (try simp only [Act.put, List.setIfInBounds_toArray, List.set_cons_zero, List.set_cons_succ])
      refine wpAnyH_take (i := 10) (oi := ({ dst := some 70, op := Op.move (Operand.tmp 10), type := 22, pos := "law.go:51", after := #[{ on := 8, ground := Ground.guard }], guard := some (8, false) } : Oper)) (v := ?_) rfl (by kernel_rfl) (by kernel_rfl) (by kernel_rfl) (fun _ _ _ h => h) (Or.inl ⟨by rfl, ?_⟩) (by assumption) ?_
      rotate_left 1
      · intro v hSw
        have b0 := hSw.bel
        obtain ⟨f0, f1, -, -⟩ := meet_facts hSw.r1
        obtain ⟨k0, k1, -, -⟩ := meet_facts hSw.r2
        have s0 := (b0.cell HhA.out).trans C0.out
        have s1 := (b0.cell (show (⟨ad.block, ad.off + 1, none⟩ : Addr).block < _ from HhA.out)).trans C1.out
        have s2 := (b0.cell HhB.out).trans C2.out
        have s3 := (b0.cell (show (⟨ad2.block, ad2.off + 1, none⟩ : Addr).block < _ from HhB.out)).trans C3.out
        (try go_simp)
        (try with_reducible rfl)
      (try simp only [Act.put, List.setIfInBounds_toArray, List.set_cons_zero, List.set_cons_succ])
      refine wpAnyH_take (i := 11) (oi := ({ dst := some 71, op := Op.binOp BinOp.neq 22 (Operand.tmp 69) (Operand.tmp 70) 22, type := 4, pos := "law.go:51", after := #[{ on := 9, ground := Ground.data }, { on := 10, ground := Ground.data }, { on := 8, ground := Ground.guard }], guard := some (8, false) } : Oper)) (v := ?_) rfl (by kernel_rfl) (by kernel_rfl) (by kernel_rfl) (fun _ _ _ h => h) (Or.inl ⟨by rfl, ?_⟩) (by assumption) ?_
      rotate_left 1
      · intro v hSw
        have b0 := hSw.bel
        obtain ⟨f0, f1, -, -⟩ := meet_facts hSw.r1
        obtain ⟨k0, k1, -, -⟩ := meet_facts hSw.r2
        have s0 := (b0.cell HhA.out).trans C0.out
        have s1 := (b0.cell (show (⟨ad.block, ad.off + 1, none⟩ : Addr).block < _ from HhA.out)).trans C1.out
        have s2 := (b0.cell HhB.out).trans C2.out
        have s3 := (b0.cell (show (⟨ad2.block, ad2.off + 1, none⟩ : Addr).block < _ from HhB.out)).trans C3.out
        (try go_simp)
        (try with_reducible rfl)
      (try simp only [Act.put, List.setIfInBounds_toArray, List.set_cons_zero, List.set_cons_succ])
      refine wpAnyH_take (i := 12) (oi := ({ dst := some 72, op := Op.pick (Operand.tmp 68) (Operand.const (Value.bool true)) (Operand.tmp 71), type := 4, pos := "law.go:51", after := #[{ on := 8, ground := Ground.data }, { on := 11, ground := Ground.data }], guard := none } : Oper)) (v := ?_) rfl (by kernel_rfl) (by kernel_rfl) (by kernel_rfl) (fun _ _ _ h => h) (Or.inl ⟨by rfl, ?_⟩) (by assumption) ?_
      rotate_left 1
      · intro v hSw
        have b0 := hSw.bel
        obtain ⟨f0, f1, -, -⟩ := meet_facts hSw.r1
        obtain ⟨k0, k1, -, -⟩ := meet_facts hSw.r2
        have s0 := (b0.cell HhA.out).trans C0.out
        have s1 := (b0.cell (show (⟨ad.block, ad.off + 1, none⟩ : Addr).block < _ from HhA.out)).trans C1.out
        have s2 := (b0.cell HhB.out).trans C2.out
        have s3 := (b0.cell (show (⟨ad2.block, ad2.off + 1, none⟩ : Addr).block < _ from HhB.out)).trans C3.out
        (try go_simp)
        (try with_reducible rfl)
      (try simp only [Act.put, List.setIfInBounds_toArray, List.set_cons_zero, List.set_cons_succ])
      refine wpAnyH_take (i := 13) (oi := ({ dst := some 73, op := Op.move (Operand.tmp 72), type := 4, pos := "law.go:51", after := #[{ on := 12, ground := Ground.data }, { on := 8, ground := Ground.chain }], guard := none } : Oper)) (v := ?_) rfl (by kernel_rfl) (by kernel_rfl) (by kernel_rfl) (fun _ _ _ h => h) (Or.inl ⟨by rfl, ?_⟩) (by assumption) ?_
      rotate_left 1
      · intro v hSw
        have b0 := hSw.bel
        obtain ⟨f0, f1, -, -⟩ := meet_facts hSw.r1
        obtain ⟨k0, k1, -, -⟩ := meet_facts hSw.r2
        have s0 := (b0.cell HhA.out).trans C0.out
        have s1 := (b0.cell (show (⟨ad.block, ad.off + 1, none⟩ : Addr).block < _ from HhA.out)).trans C1.out
        have s2 := (b0.cell HhB.out).trans C2.out
        have s3 := (b0.cell (show (⟨ad2.block, ad2.off + 1, none⟩ : Addr).block < _ from HhB.out)).trans C3.out
        (try go_simp)
        (try with_reducible rfl)
      (try simp only [Act.put, List.setIfInBounds_toArray, List.set_cons_zero, List.set_cons_succ])
      refine wpAnyH_take (i := 14) (oi := ({ dst := some 74, op := Op.move (Operand.tmp 0), type := 29, pos := "law.go:51", after := #[{ on := 13, ground := Ground.guard }], guard := some (13, false) } : Oper)) (v := ?_) rfl (by kernel_rfl) (by kernel_rfl) (by kernel_rfl) (fun _ _ _ h => h) (Or.inl ⟨by rfl, ?_⟩) (by assumption) ?_
      rotate_left 1
      · intro v hSw
        have b0 := hSw.bel
        obtain ⟨f0, f1, -, -⟩ := meet_facts hSw.r1
        obtain ⟨k0, k1, -, -⟩ := meet_facts hSw.r2
        have s0 := (b0.cell HhA.out).trans C0.out
        have s1 := (b0.cell (show (⟨ad.block, ad.off + 1, none⟩ : Addr).block < _ from HhA.out)).trans C1.out
        have s2 := (b0.cell HhB.out).trans C2.out
        have s3 := (b0.cell (show (⟨ad2.block, ad2.off + 1, none⟩ : Addr).block < _ from HhB.out)).trans C3.out
        (try go_simp)
        (try with_reducible rfl)
      (try simp only [Act.put, List.setIfInBounds_toArray, List.set_cons_zero, List.set_cons_succ])
      refine wpAnyH_take (i := 15) (oi := ({ dst := some 75, op := Op.indexAddr 29 (Operand.tmp 74) (Operand.const (Value.int IntKind.i64 0)), type := 0, pos := "law.go:51", after := #[{ on := 14, ground := Ground.data }, { on := 13, ground := Ground.guard }], guard := some (13, false) } : Oper)) (v := ?_) rfl (by kernel_rfl) (by kernel_rfl) (by kernel_rfl) (fun _ _ _ h => h) (Or.inl ⟨by rfl, ?_⟩) (by assumption) ?_
      rotate_left 1
      · intro v hSw
        have b0 := hSw.bel
        obtain ⟨f0, f1, -, -⟩ := meet_facts hSw.r1
        obtain ⟨k0, k1, -, -⟩ := meet_facts hSw.r2
        have s0 := (b0.cell HhA.out).trans C0.out
        have s1 := (b0.cell (show (⟨ad.block, ad.off + 1, none⟩ : Addr).block < _ from HhA.out)).trans C1.out
        have s2 := (b0.cell HhB.out).trans C2.out
        have s3 := (b0.cell (show (⟨ad2.block, ad2.off + 1, none⟩ : Addr).block < _ from HhB.out)).trans C3.out
        (try go_simp)
        (try with_reducible rfl)
      (try simp only [Act.put, List.setIfInBounds_toArray, List.set_cons_zero, List.set_cons_succ])
      refine wpAnyH_take (i := 16) (oi := ({ dst := some 76, op := Op.load 32 (Operand.tmp 75), type := 32, pos := "law.go:51", after := #[{ on := 15, ground := Ground.data }, { on := 13, ground := Ground.guard }], guard := some (13, false) } : Oper)) (v := ?_) rfl (by kernel_rfl) (by kernel_rfl) (by kernel_rfl) (fun _ _ _ h => h) (Or.inl ⟨by rfl, ?_⟩) (by assumption) ?_
      rotate_left 1
      · intro v hSw
        have b0 := hSw.bel
        obtain ⟨f0, f1, -, -⟩ := meet_facts hSw.r1
        obtain ⟨k0, k1, -, -⟩ := meet_facts hSw.r2
        have s0 := (b0.cell HhA.out).trans C0.out
        have s1 := (b0.cell (show (⟨ad.block, ad.off + 1, none⟩ : Addr).block < _ from HhA.out)).trans C1.out
        have s2 := (b0.cell HhB.out).trans C2.out
        have s3 := (b0.cell (show (⟨ad2.block, ad2.off + 1, none⟩ : Addr).block < _ from HhB.out)).trans C3.out
        (try go_simp)
        (try with_reducible rfl)
      (try simp only [Act.put, List.setIfInBounds_toArray, List.set_cons_zero, List.set_cons_succ])
      refine wpAnyH_take (i := 18) (oi := ({ dst := some 78, op := Op.move (Operand.tmp 0), type := 29, pos := "law.go:51", after := #[{ on := 13, ground := Ground.guard }], guard := some (13, false) } : Oper)) (v := ?_) rfl (by kernel_rfl) (by kernel_rfl) (by kernel_rfl) (fun _ _ _ h => h) (Or.inl ⟨by rfl, ?_⟩) (by assumption) ?_
      rotate_left 1
      · intro v hSw
        have b0 := hSw.bel
        obtain ⟨f0, f1, -, -⟩ := meet_facts hSw.r1
        obtain ⟨k0, k1, -, -⟩ := meet_facts hSw.r2
        have s0 := (b0.cell HhA.out).trans C0.out
        have s1 := (b0.cell (show (⟨ad.block, ad.off + 1, none⟩ : Addr).block < _ from HhA.out)).trans C1.out
        have s2 := (b0.cell HhB.out).trans C2.out
        have s3 := (b0.cell (show (⟨ad2.block, ad2.off + 1, none⟩ : Addr).block < _ from HhB.out)).trans C3.out
        (try go_simp)
        (try with_reducible rfl)
      (try simp only [Act.put, List.setIfInBounds_toArray, List.set_cons_zero, List.set_cons_succ])
      refine wpAnyH_take (i := 19) (oi := ({ dst := some 79, op := Op.indexAddr 29 (Operand.tmp 78) (Operand.const (Value.int IntKind.i64 0)), type := 0, pos := "law.go:51", after := #[{ on := 18, ground := Ground.data }, { on := 13, ground := Ground.guard }], guard := some (13, false) } : Oper)) (v := ?_) rfl (by kernel_rfl) (by kernel_rfl) (by kernel_rfl) (fun _ _ _ h => h) (Or.inl ⟨by rfl, ?_⟩) (by assumption) ?_
      rotate_left 1
      · intro v hSw
        have b0 := hSw.bel
        obtain ⟨f0, f1, -, -⟩ := meet_facts hSw.r1
        obtain ⟨k0, k1, -, -⟩ := meet_facts hSw.r2
        have s0 := (b0.cell HhA.out).trans C0.out
        have s1 := (b0.cell (show (⟨ad.block, ad.off + 1, none⟩ : Addr).block < _ from HhA.out)).trans C1.out
        have s2 := (b0.cell HhB.out).trans C2.out
        have s3 := (b0.cell (show (⟨ad2.block, ad2.off + 1, none⟩ : Addr).block < _ from HhB.out)).trans C3.out
        (try go_simp)
        (try with_reducible rfl)
      (try simp only [Act.put, List.setIfInBounds_toArray, List.set_cons_zero, List.set_cons_succ])
      refine wpAnyH_take (i := 20) (oi := ({ dst := some 80, op := Op.load 32 (Operand.tmp 79), type := 32, pos := "law.go:51", after := #[{ on := 19, ground := Ground.data }, { on := 13, ground := Ground.guard }], guard := some (13, false) } : Oper)) (v := ?_) rfl (by kernel_rfl) (by kernel_rfl) (by kernel_rfl) (fun _ _ _ h => h) (Or.inl ⟨by rfl, ?_⟩) (by assumption) ?_
      rotate_left 1
      · intro v hSw
        have b0 := hSw.bel
        obtain ⟨f0, f1, -, -⟩ := meet_facts hSw.r1
        obtain ⟨k0, k1, -, -⟩ := meet_facts hSw.r2
        have s0 := (b0.cell HhA.out).trans C0.out
        have s1 := (b0.cell (show (⟨ad.block, ad.off + 1, none⟩ : Addr).block < _ from HhA.out)).trans C1.out
        have s2 := (b0.cell HhB.out).trans C2.out
        have s3 := (b0.cell (show (⟨ad2.block, ad2.off + 1, none⟩ : Addr).block < _ from HhB.out)).trans C3.out
        (try go_simp)
        (try with_reducible rfl)
      (try simp only [Act.put, List.setIfInBounds_toArray, List.set_cons_zero, List.set_cons_succ])
      refine wpAnyH_ready (rs := [17]) (by kernel_rfl) (by simp) ?_
      refine AllReadyH.cons (o := ({ dst := some 77, op := Op.call { callee := Callee.value (Operand.func 22), args := #[Operand.tmp 76], argTypes := #[32] }, type := 22, pos := "law.go:51", after := #[{ on := 16, ground := Ground.data }, { on := 13, ground := Ground.chain }, { on := 13, ground := Ground.guard }], guard := some (13, false) } : Oper)) rfl (fun K hK => ?_) (AllReadyH.nil)
      go_simp
      refine (K1.out X0).mono ?_
      rintro e X1 ⟨rfl, hc⟩
      have hH1 := hHeld.on hc
      refine hK.out _ _ hH1 (fun _ => ?_)
      clear hK K
      (try simp only [Act.put, List.setIfInBounds_toArray, List.set_cons_zero, List.set_cons_succ])
      refine wpAnyH_ready (rs := [21]) (by kernel_rfl) (by simp) ?_
      refine AllReadyH.cons (o := ({ dst := some 81, op := Op.call { callee := Callee.value (Operand.func 23), args := #[Operand.tmp 80], argTypes := #[32] }, type := 22, pos := "law.go:51", after := #[{ on := 20, ground := Ground.data }, { on := 17, ground := Ground.chain }, { on := 13, ground := Ground.guard }], guard := some (13, false) } : Oper)) rfl (fun K hK => ?_) (AllReadyH.nil)
      go_simp
      refine (K2.out X1).mono ?_
      rintro e W6 ⟨rfl, hc'⟩
      have hH2 := hH1.on hc'
      refine hK.out _ _ hH2 (fun _ => ?_)
      clear hK K
      (try simp only [Act.put, List.setIfInBounds_toArray, List.set_cons_zero, List.set_cons_succ])
      refine wpAnyH_take (i := 22) (oi := ({ dst := some 82, op := Op.binOp BinOp.neq 22 (Operand.tmp 77) (Operand.tmp 81) 22, type := 4, pos := "law.go:51", after := #[{ on := 17, ground := Ground.data }, { on := 21, ground := Ground.data }, { on := 13, ground := Ground.guard }], guard := some (13, false) } : Oper)) (v := ?_) rfl (by kernel_rfl) (by kernel_rfl) (by kernel_rfl) (fun _ _ _ h => h) (Or.inl ⟨by rfl, ?_⟩) (by assumption) ?_
      rotate_left 1
      · intro v hSw
        (try go_simp)
        (try with_reducible rfl)
      (try simp only [Act.put, List.setIfInBounds_toArray, List.set_cons_zero, List.set_cons_succ])
      refine wpAnyH_take (i := 23) (oi := ({ dst := some 83, op := Op.pick (Operand.tmp 73) (Operand.const (Value.bool true)) (Operand.tmp 82), type := 4, pos := "law.go:51", after := #[{ on := 13, ground := Ground.data }, { on := 22, ground := Ground.data }], guard := none } : Oper)) (v := ?_) rfl (by kernel_rfl) (by kernel_rfl) (by kernel_rfl) (fun _ _ _ h => h) (Or.inl ⟨by rfl, ?_⟩) (by assumption) ?_
      rotate_left 1
      · intro v hSw
        (try go_simp)
        (try with_reducible rfl)
      (try simp only [Act.put, List.setIfInBounds_toArray, List.set_cons_zero, List.set_cons_succ])
      refine wpAnyH_done (by kernel_rfl) ?_ _
      refine NoPanic.normal ?_
      have hb0 := hH2.bel
      clear hHeld hH1 hH2 hc hc' hrP hrQ hbQ
      go_wp2_with fail
      refine (U1.out W6 (HA.out.on hb0)).mono ?_
      intro e w1 hp
      obtain ⟨Au, cu, Mu, u, rfl, hsu, hmu, hcu, hnu, hb⟩ := hp.rd G1.out
      have hb1 := bt hb0 hb0.size hb
      clear hb
      have HSu := Lib.hid hsu
      have Hmu := Lib.hid hmu
      have Hcu := Lib.hid hcu
      have Hnu := Lib.hid hnu
      clear hp hsu hmu hcu hnu
      go_wp2_with fail
      refine (U2.out w1 (HA.out.on hb1)).mono ?_
      intro e w2 hp
      obtain ⟨Av, cv, Mv, u', rfl, hsv, hmv, hcv, hnv, hb⟩ := hp.rd G1.out
      have hb2 := bt hb1 hb1.size hb
      have heq := T.same_lists Hcu.out Hnu.out hcv hnv
      have hmm : Mv = Mu := by rw [← hmv, ← Hmu.out, heq]
      rw [← heq] at hsv
      rw [hmm]
      have HSu2 := Lib.hid (HSu.out.on hb)
      have HSv2 := Lib.hid hsv
      clear hp hsv hmv hcv hnv hb hb1 heq hmm HSu
      go_wp2_with fail
      refine (M1.out w2 (HA.out.on hb2) (HB.out.on hb2)).mono ?_
      intro e w3 hp
      obtain ⟨Am, cm, Mm, r, rfl, hsm, hmm, hcm', hnm, hb⟩ := hp.rd G2.out
      have hb3 := bt hb2 hb2.size hb
      have HSu3 := Lib.hid (HSu2.out.on hb)
      have HSv3 := Lib.hid (HSv2.out.on hb)
      have HSm3 := Lib.hid hsm
      have Hmm := Lib.hid hmm
      have Hcm := Lib.hid hcm'
      have Hnm := Lib.hid hnm
      clear hp hsm hmm hcm' hnm hb hb2 HSu2 HSv2
      go_wp2_with fail
      refine (M2.out w3 (HA.out.on hb3) (HB.out.on hb3)).mono ?_
      intro e w4 hp
      obtain ⟨An, cn, Mn, r', rfl, hsn, hmn, hcn, hnn, hb⟩ := hp.rd G2.out
      have hb4 := bt hb3 hb3.size hb
      have heq := T.same_lists Hcm.out Hnm.out hcn hnn
      have hme : Mn = Mm := by rw [← hmn, ← Hmm.out, heq]
      rw [← heq] at hsn
      rw [hme]
      have HSu4 := Lib.hid (HSu3.out.on hb)
      have HSv4 := Lib.hid (HSv3.out.on hb)
      have HSm4 := Lib.hid (HSm3.out.on hb)
      have HSn4 := Lib.hid hsn
      clear hp hsn hmn hcn hnn hb hb3 heq hme HSu3 HSv3 HSm3
      go_wp2_with fail
      refine (T1.out w4 (HA.out.on hb4)).mono ?_
      rintro e w5 ⟨V, he, k1, k2, hb⟩
      unfold T.pr at he
      subst he
      have hb5 := bt hb4 hb4.size hb
      have K1 := Lib.hid k1
      have K2 := Lib.hid k2
      have HSu5 := Lib.hid (HSu4.out.on hb)
      have HSv5 := Lib.hid (HSv4.out.on hb)
      have HSm5 := Lib.hid (HSm4.out.on hb)
      have HSn5 := Lib.hid (HSn4.out.on hb)
      clear k1 k2 hb hb4 HSu4 HSv4 HSm4 HSn4
      go_wp2_with fail
      refine (T2.out w5 (HA.out.on hb5)).mono ?_
      rintro e w6 ⟨V', he, k1, k2, hb⟩
      unfold T.pr at he
      subst he
      have hb6 := bt hb5 hb5.size hb
      have heq := T.same_sums K1.out K2.out k1 k2
      rw [← heq]
      have HSu6 := Lib.hid (HSu5.out.on hb)
      have HSv6 := Lib.hid (HSv5.out.on hb)
      have HSm6 := Lib.hid (HSm5.out.on hb)
      have HSn6 := Lib.hid (HSn5.out.on hb)
      clear k1 k2 hb hb5 heq HSu5 HSv5 HSm5 HSn5
      go_wp2_with fail
      refine (RSame_eq Au Av cu cv Mu u w6 HSu6.out HSv6.out Hmu.out).mono ?_
      rintro e w7 ⟨rfl, hb⟩
      have hb7 := bt hb6 hb6.size hb
      have HSm7 := Lib.hid (HSm6.out.on hb)
      have HSn7 := Lib.hid (HSn6.out.on hb)
      clear hb hb6 HSu6 HSv6 HSm6 HSn6
      go_wp2_with fail
      refine (RSame_eq Am An cm cn Mm r w7 HSm7.out HSn7.out Hmm.out).mono ?_
      rintro e w8 ⟨rfl, hb⟩
      have hb8 := bt hb7 hb7.size hb
      have HW := Lib.hid (awake_any w8 (HT.out.on hb8))
      clear hb hb7 HSm7 HSn7
      go_wp2_with fail
      refine HW.out.mono ?_
      rintro e w9 ⟨rfl, hb⟩
      have hb9 := bt hb8 hb8.size hb
      go_wp2_with fail
      go_ret
      exact ⟨rfl, hb9⟩
  · skip
    go_simp
    have hb1 : Below w.heap.size w (X0.alloc (.cells #[.int .i64 0, .int .i64 0] 32)) := bt hHeld hHeld.size (below_new _ _)
    have hr1 := World.alloc_heap_new X0 (.cells #[.int .i64 0, .int .i64 0] 32)
    have hl1 : X0.heap.size < (X0.alloc (.cells #[.int .i64 0, .int .i64 0] 32)).heap.size := by simp
    have hg2 := hHeld.size
    generalize (X0.alloc (.cells #[.int .i64 0, .int .i64 0] 32)) = X1 at hb1 hr1 hl1 ⊢
    generalize X0.heap.size = gP at hr1 hl1 hg2 ⊢
    refine hK.out _ _ hb1 (fun _ => ?_)
    clear hK K
    (try simp only [Act.put, List.setIfInBounds_toArray, List.set_cons_zero, List.set_cons_succ])
    refine wpAnyH_ready (rs := [6]) (by kernel_rfl) (by simp) ?_
    refine AllReadyH.cons (o := ({ dst := some 45, op := Op.call { callee := Callee.value (Operand.func 20), args := #[Operand.tmp 41, Operand.tmp 44], argTypes := #[32, 32] }, type := 33, pos := "law.go:49", after := #[{ on := 2, ground := Ground.data }, { on := 5, ground := Ground.data }], guard := none } : Oper)) rfl (fun K hK => ?_) (AllReadyH.nil)
    go_simp
    refine (MA.out X1).mono ?_
    rintro e W1 ⟨rfl, hc⟩
    have hb2 : Below w.heap.size w W1 := bt hb1 hb1.size hc
    have hr2 := (hc.block _ hl1).trans hr1
    generalize W1 = W2 at hb2 hr2 ⊢
    refine hK.out _ _ hb2 (fun _ => ?_)
    clear hK K
    (try simp only [Act.put, List.setIfInBounds_toArray, List.set_cons_zero, List.set_cons_succ])
    refine wpAnyH_take (i := 7) (oi := ({ dst := some 38, op := Op.move (Operand.tmp 45), type := 33, pos := "law.go:49", after := #[{ on := 6, ground := Ground.data }], guard := none } : Oper)) (v := ?_) rfl (by kernel_rfl) (by kernel_rfl) (by kernel_rfl) (fun _ _ _ h => h) (Or.inl ⟨by rfl, ?_⟩) (by assumption) ?_
    rotate_left 1
    · intro v hSw
      (try go_simp)
      (try with_reducible rfl)
    (try simp only [Act.put, List.setIfInBounds_toArray, List.set_cons_zero, List.set_cons_succ])
    refine wpAnyH_take (i := 8) (oi := ({ dst := some 46, op := Op.extract (Operand.tmp 38) 0, type := 32, pos := "law.go:49", after := #[{ on := 7, ground := Ground.data }], guard := none } : Oper)) (v := ?_) rfl (by kernel_rfl) (by kernel_rfl) (by kernel_rfl) (fun _ _ _ h => h) (Or.inl ⟨by rfl, ?_⟩) (by assumption) ?_
    rotate_left 1
    · intro v hSw
      (try go_simp)
      (try with_reducible rfl)
    (try simp only [Act.put, List.setIfInBounds_toArray, List.set_cons_zero, List.set_cons_succ])
    refine wpAnyH_take (i := 9) (oi := ({ dst := some 47, op := Op.extract (Operand.tmp 38) 1, type := 4, pos := "law.go:49", after := #[{ on := 7, ground := Ground.data }, { on := 12, ground := Ground.gcOnly Departure.lateStores }], guard := none } : Oper)) (v := ?_) rfl (by kernel_rfl) (by kernel_rfl) (by kernel_rfl) (fun _ _ _ h => h) (Or.inl ⟨by rfl, ?_⟩) (by assumption) ?_
    rotate_left 1
    · intro v hSw
      (try go_simp)
      (try with_reducible rfl)
    (try simp only [Act.put, List.setIfInBounds_toArray, List.set_cons_zero, List.set_cons_succ])
    refine wpAnyH_take (i := 10) (oi := ({ dst := some 48, op := Op.extract (Operand.tmp 38) 2, type := 22, pos := "law.go:49", after := #[{ on := 7, ground := Ground.data }, { on := 13, ground := Ground.gcOnly Departure.lateStores }], guard := none } : Oper)) (v := ?_) rfl (by kernel_rfl) (by kernel_rfl) (by kernel_rfl) (fun _ _ _ h => h) (Or.inl ⟨by rfl, ?_⟩) (by assumption) ?_
    rotate_left 1
    · intro v hSw
      (try go_simp)
      (try with_reducible rfl)
    (try simp only [Act.put, List.setIfInBounds_toArray, List.set_cons_zero, List.set_cons_succ])
    refine wpAnyH_ready (rs := [12]) (by kernel_rfl) (by simp) ?_
    refine AllReadyH.cons (o := ({ dst := none, op := Op.store 32 (Operand.tmp 5) (Operand.tmp 46), type := 0, pos := "law.go:49", after := #[{ on := 11, ground := Ground.data }, { on := 8, ground := Ground.data }, { on := 6, ground := Ground.chain }, { on := 0, ground := Ground.phase }, { on := 1, ground := Ground.phase }, { on := 2, ground := Ground.phase }, { on := 3, ground := Ground.phase }, { on := 4, ground := Ground.phase }, { on := 5, ground := Ground.phase }, { on := 6, ground := Ground.phase }, { on := 7, ground := Ground.phase }, { on := 8, ground := Ground.phase }, { on := 9, ground := Ground.textOnly Departure.lateStores }, { on := 10, ground := Ground.textOnly Departure.lateStores }, { on := 11, ground := Ground.phase }], guard := none } : Oper)) rfl (fun K hK => ?_) (AllReadyH.nil)
    obtain ⟨f0, f1, f2, f3⟩ := meet_facts hr2
    go_simp
    have hrP := set_two hr2 (.int .i64 mx) (.int .i64 my)
    have hbP : Below w.heap.size w ((W2.setCell ⟨gP, 0, none⟩ (.int .i64 mx)).setCell ⟨gP, 1, none⟩ (.int .i64 my)) := (hb2.setCell (p := ⟨gP, 0, none⟩) hg2 _).setCell (p := ⟨gP, 1, none⟩) hg2 _
    generalize ((W2.setCell ⟨gP, 0, none⟩ (.int .i64 mx)).setCell ⟨gP, 1, none⟩ (.int .i64 my)) = WP at hrP hbP ⊢
    refine hK.out _ _ hbP (fun _ => ?_)
    clear hK K
    (try simp only [Act.put, List.setIfInBounds_toArray, List.set_cons_zero, List.set_cons_succ])
    refine wpAnyH_take (i := 13) (oi := ({ dst := some 6, op := Op.assign (Operand.tmp 47), type := 4, pos := "law.go:49", after := #[{ on := 9, ground := Ground.data }, { on := 12, ground := Ground.chain }, { on := 0, ground := Ground.phase }, { on := 1, ground := Ground.phase }, { on := 2, ground := Ground.phase }, { on := 3, ground := Ground.phase }, { on := 4, ground := Ground.phase }, { on := 5, ground := Ground.phase }, { on := 6, ground := Ground.phase }, { on := 7, ground := Ground.phase }, { on := 8, ground := Ground.phase }, { on := 9, ground := Ground.phase }, { on := 10, ground := Ground.textOnly Departure.lateStores }, { on := 11, ground := Ground.phase }, { on := 12, ground := Ground.phase }], guard := none } : Oper)) (v := ?_) rfl (by kernel_rfl) (by kernel_rfl) (by kernel_rfl) (fun _ _ _ h => h) (Or.inl ⟨by rfl, ?_⟩) (by assumption) ?_
    rotate_left 1
    · intro v hSw
      (try go_simp)
      (try with_reducible rfl)
    (try simp only [Act.put, List.setIfInBounds_toArray, List.set_cons_zero, List.set_cons_succ])
    refine wpAnyH_take (i := 14) (oi := ({ dst := some 7, op := Op.assign (Operand.tmp 48), type := 22, pos := "law.go:49", after := #[{ on := 10, ground := Ground.data }, { on := 13, ground := Ground.chain }, { on := 0, ground := Ground.phase }, { on := 1, ground := Ground.phase }, { on := 2, ground := Ground.phase }, { on := 3, ground := Ground.phase }, { on := 4, ground := Ground.phase }, { on := 5, ground := Ground.phase }, { on := 6, ground := Ground.phase }, { on := 7, ground := Ground.phase }, { on := 8, ground := Ground.phase }, { on := 9, ground := Ground.phase }, { on := 10, ground := Ground.phase }, { on := 11, ground := Ground.phase }, { on := 12, ground := Ground.phase }, { on := 13, ground := Ground.phase }], guard := none } : Oper)) (v := ?_) rfl (by kernel_rfl) (by kernel_rfl) (by kernel_rfl) (fun _ _ _ h => h) (Or.inl ⟨by rfl, ?_⟩) (by assumption) ?_
    rotate_left 1
    · intro v hSw
      (try go_simp)
      (try with_reducible rfl)
    (try simp only [Act.put, List.setIfInBounds_toArray, List.set_cons_zero, List.set_cons_succ])
    refine wpAnyH_done (by kernel_rfl) ?_ _
    refine NoPanic.normal ?_
    have HbP := Lib.hid hbP
    have HrP := Lib.hid hrP
    have HlP := Lib.hid (Array.getElem?_eq_some_iff.1 hrP).1
    clear hHeld hr2 hb2 hg2 f0 f1 f2 f3 hb1 hc hbP hrP 
    go_wp2_with fail
    refine wp_region_noPanic ?_
    refine wp_region_held_drew (S := fun v => Below WP.heap.size WP v) (by kernel_rfl) (Below.refl WP.heap.size WP).drew (fun hHeld => ?_)
    replace hHeld : Below WP.heap.size WP (WP).drew := hHeld
    generalize (WP).drew = X0 at hHeld ⊢
    refine wpAnyH_take (i := 0) (oi := ({ dst := some 50, op := Op.move (Operand.tmp 0), type := 29, pos := "law.go:50", after := #[], guard := none } : Oper)) (v := ?_) rfl (by kernel_rfl) (by kernel_rfl) (by kernel_rfl) (fun _ _ _ h => h) (Or.inl ⟨by rfl, ?_⟩) (by assumption) ?_
    rotate_left 1
    · intro v hSw
      replace hSw : Below w.heap.size w v := bt HbP.out HbP.out.size hSw
      have s0 := (hSw.cell HhA.out).trans C0.out
      have s1 := (hSw.cell (show (⟨ad.block, ad.off + 1, none⟩ : Addr).block < _ from HhA.out)).trans C1.out
      have s2 := (hSw.cell HhB.out).trans C2.out
      have s3 := (hSw.cell (show (⟨ad2.block, ad2.off + 1, none⟩ : Addr).block < _ from HhB.out)).trans C3.out
      (try go_simp)
      (try with_reducible rfl)
    (try simp only [Act.put, List.setIfInBounds_toArray, List.set_cons_zero, List.set_cons_succ])
    refine wpAnyH_take (i := 1) (oi := ({ dst := some 51, op := Op.indexAddr 29 (Operand.tmp 50) (Operand.const (Value.int IntKind.i64 0)), type := 0, pos := "law.go:50", after := #[{ on := 0, ground := Ground.data }], guard := none } : Oper)) (v := ?_) rfl (by kernel_rfl) (by kernel_rfl) (by kernel_rfl) (fun _ _ _ h => h) (Or.inl ⟨by rfl, ?_⟩) (by assumption) ?_
    rotate_left 1
    · intro v hSw
      replace hSw : Below w.heap.size w v := bt HbP.out HbP.out.size hSw
      have s0 := (hSw.cell HhA.out).trans C0.out
      have s1 := (hSw.cell (show (⟨ad.block, ad.off + 1, none⟩ : Addr).block < _ from HhA.out)).trans C1.out
      have s2 := (hSw.cell HhB.out).trans C2.out
      have s3 := (hSw.cell (show (⟨ad2.block, ad2.off + 1, none⟩ : Addr).block < _ from HhB.out)).trans C3.out
      (try go_simp)
      (try with_reducible rfl)
    (try simp only [Act.put, List.setIfInBounds_toArray, List.set_cons_zero, List.set_cons_succ])
    refine wpAnyH_take (i := 2) (oi := ({ dst := some 52, op := Op.load 32 (Operand.tmp 51), type := 32, pos := "law.go:50", after := #[{ on := 1, ground := Ground.data }], guard := none } : Oper)) (v := ?_) rfl (by kernel_rfl) (by kernel_rfl) (by kernel_rfl) (fun _ _ _ h => h) (Or.inl ⟨by rfl, ?_⟩) (by assumption) ?_
    rotate_left 1
    · intro v hSw
      replace hSw : Below w.heap.size w v := bt HbP.out HbP.out.size hSw
      have s0 := (hSw.cell HhA.out).trans C0.out
      have s1 := (hSw.cell (show (⟨ad.block, ad.off + 1, none⟩ : Addr).block < _ from HhA.out)).trans C1.out
      have s2 := (hSw.cell HhB.out).trans C2.out
      have s3 := (hSw.cell (show (⟨ad2.block, ad2.off + 1, none⟩ : Addr).block < _ from HhB.out)).trans C3.out
      (try go_simp)
      (try with_reducible rfl)
    (try simp only [Act.put, List.setIfInBounds_toArray, List.set_cons_zero, List.set_cons_succ])
    refine wpAnyH_take (i := 3) (oi := ({ dst := some 53, op := Op.move (Operand.tmp 1), type := 29, pos := "law.go:50", after := #[], guard := none } : Oper)) (v := ?_) rfl (by kernel_rfl) (by kernel_rfl) (by kernel_rfl) (fun _ _ _ h => h) (Or.inl ⟨by rfl, ?_⟩) (by assumption) ?_
    rotate_left 1
    · intro v hSw
      replace hSw : Below w.heap.size w v := bt HbP.out HbP.out.size hSw
      have s0 := (hSw.cell HhA.out).trans C0.out
      have s1 := (hSw.cell (show (⟨ad.block, ad.off + 1, none⟩ : Addr).block < _ from HhA.out)).trans C1.out
      have s2 := (hSw.cell HhB.out).trans C2.out
      have s3 := (hSw.cell (show (⟨ad2.block, ad2.off + 1, none⟩ : Addr).block < _ from HhB.out)).trans C3.out
      (try go_simp)
      (try with_reducible rfl)
    (try simp only [Act.put, List.setIfInBounds_toArray, List.set_cons_zero, List.set_cons_succ])
    refine wpAnyH_take (i := 4) (oi := ({ dst := some 54, op := Op.indexAddr 29 (Operand.tmp 53) (Operand.const (Value.int IntKind.i64 0)), type := 0, pos := "law.go:50", after := #[{ on := 3, ground := Ground.data }], guard := none } : Oper)) (v := ?_) rfl (by kernel_rfl) (by kernel_rfl) (by kernel_rfl) (fun _ _ _ h => h) (Or.inl ⟨by rfl, ?_⟩) (by assumption) ?_
    rotate_left 1
    · intro v hSw
      replace hSw : Below w.heap.size w v := bt HbP.out HbP.out.size hSw
      have s0 := (hSw.cell HhA.out).trans C0.out
      have s1 := (hSw.cell (show (⟨ad.block, ad.off + 1, none⟩ : Addr).block < _ from HhA.out)).trans C1.out
      have s2 := (hSw.cell HhB.out).trans C2.out
      have s3 := (hSw.cell (show (⟨ad2.block, ad2.off + 1, none⟩ : Addr).block < _ from HhB.out)).trans C3.out
      (try go_simp)
      (try with_reducible rfl)
    (try simp only [Act.put, List.setIfInBounds_toArray, List.set_cons_zero, List.set_cons_succ])
    refine wpAnyH_take (i := 5) (oi := ({ dst := some 55, op := Op.load 32 (Operand.tmp 54), type := 32, pos := "law.go:50", after := #[{ on := 4, ground := Ground.data }], guard := none } : Oper)) (v := ?_) rfl (by kernel_rfl) (by kernel_rfl) (by kernel_rfl) (fun _ _ _ h => h) (Or.inl ⟨by rfl, ?_⟩) (by assumption) ?_
    rotate_left 1
    · intro v hSw
      replace hSw : Below w.heap.size w v := bt HbP.out HbP.out.size hSw
      have s0 := (hSw.cell HhA.out).trans C0.out
      have s1 := (hSw.cell (show (⟨ad.block, ad.off + 1, none⟩ : Addr).block < _ from HhA.out)).trans C1.out
      have s2 := (hSw.cell HhB.out).trans C2.out
      have s3 := (hSw.cell (show (⟨ad2.block, ad2.off + 1, none⟩ : Addr).block < _ from HhB.out)).trans C3.out
      (try go_simp)
      (try with_reducible rfl)
    (try simp only [Act.put, List.setIfInBounds_toArray, List.set_cons_zero, List.set_cons_succ])
    refine wpAnyH_ready (rs := [6, 11]) (by kernel_rfl) (by simp) ?_
    refine AllReadyH.cons (o := ({ dst := some 56, op := Op.call { callee := Callee.value (Operand.func 21), args := #[Operand.tmp 52, Operand.tmp 55], argTypes := #[32, 32] }, type := 33, pos := "law.go:50", after := #[{ on := 2, ground := Ground.data }, { on := 5, ground := Ground.data }], guard := none } : Oper)) rfl (fun K hK => ?_) (AllReadyH.cons (o := ({ dst := some 8, op := Op.alloc 32, type := 0, pos := "law.go:50", after := #[], guard := none } : Oper)) rfl (fun K hK => ?_) (AllReadyH.nil))
    · skip
      go_simp
      refine (MB.out X0).mono ?_
      rintro e W1 ⟨rfl, hc⟩
      have hb1 : Below WP.heap.size WP W1 := bt hHeld hHeld.size hc
      refine hK.out _ _ hb1 (fun _ => ?_)
      clear hK K
      (try simp only [Act.put, List.setIfInBounds_toArray, List.set_cons_zero, List.set_cons_succ])
      refine wpAnyH_take (i := 7) (oi := ({ dst := some 49, op := Op.move (Operand.tmp 56), type := 33, pos := "law.go:50", after := #[{ on := 6, ground := Ground.data }], guard := none } : Oper)) (v := ?_) rfl (by kernel_rfl) (by kernel_rfl) (by kernel_rfl) (fun _ _ _ h => h) (Or.inl ⟨by rfl, ?_⟩) (by assumption) ?_
      rotate_left 1
      · intro v hSw
        (try go_simp)
        (try with_reducible rfl)
      (try simp only [Act.put, List.setIfInBounds_toArray, List.set_cons_zero, List.set_cons_succ])
      refine wpAnyH_take (i := 8) (oi := ({ dst := some 57, op := Op.extract (Operand.tmp 49) 0, type := 32, pos := "law.go:50", after := #[{ on := 7, ground := Ground.data }], guard := none } : Oper)) (v := ?_) rfl (by kernel_rfl) (by kernel_rfl) (by kernel_rfl) (fun _ _ _ h => h) (Or.inl ⟨by rfl, ?_⟩) (by assumption) ?_
      rotate_left 1
      · intro v hSw
        (try go_simp)
        (try with_reducible rfl)
      (try simp only [Act.put, List.setIfInBounds_toArray, List.set_cons_zero, List.set_cons_succ])
      refine wpAnyH_take (i := 9) (oi := ({ dst := some 58, op := Op.extract (Operand.tmp 49) 1, type := 4, pos := "law.go:50", after := #[{ on := 7, ground := Ground.data }, { on := 12, ground := Ground.gcOnly Departure.lateStores }], guard := none } : Oper)) (v := ?_) rfl (by kernel_rfl) (by kernel_rfl) (by kernel_rfl) (fun _ _ _ h => h) (Or.inl ⟨by rfl, ?_⟩) (by assumption) ?_
      rotate_left 1
      · intro v hSw
        (try go_simp)
        (try with_reducible rfl)
      (try simp only [Act.put, List.setIfInBounds_toArray, List.set_cons_zero, List.set_cons_succ])
      refine wpAnyH_take (i := 10) (oi := ({ dst := some 59, op := Op.extract (Operand.tmp 49) 2, type := 22, pos := "law.go:50", after := #[{ on := 7, ground := Ground.data }, { on := 13, ground := Ground.gcOnly Departure.lateStores }], guard := none } : Oper)) (v := ?_) rfl (by kernel_rfl) (by kernel_rfl) (by kernel_rfl) (fun _ _ _ h => h) (Or.inl ⟨by rfl, ?_⟩) (by assumption) ?_
      rotate_left 1
      · intro v hSw
        (try go_simp)
        (try with_reducible rfl)
      (try simp only [Act.put, List.setIfInBounds_toArray, List.set_cons_zero, List.set_cons_succ])
      refine wpAnyH_ready (rs := [11]) (by kernel_rfl) (by simp) ?_
      refine AllReadyH.cons (o := ({ dst := some 8, op := Op.alloc 32, type := 0, pos := "law.go:50", after := #[], guard := none } : Oper)) rfl (fun K hK => ?_) (AllReadyH.nil)
      go_simp
      have hb2 : Below WP.heap.size WP (W1.alloc (.cells #[.int .i64 0, .int .i64 0] 32)) := bt hb1 hb1.size (below_new _ _)
      have hr2 := World.alloc_heap_new W1 (.cells #[.int .i64 0, .int .i64 0] 32)
      have hg2 := hb1.size
      generalize (W1.alloc (.cells #[.int .i64 0, .int .i64 0] 32)) = W2 at hb2 hr2 ⊢
      generalize W1.heap.size = gQ at hr2 hg2 ⊢
      refine hK.out _ _ hb2 (fun _ => ?_)
      clear hK K
      (try simp only [Act.put, List.setIfInBounds_toArray, List.set_cons_zero, List.set_cons_succ])
      refine wpAnyH_ready (rs := [12]) (by kernel_rfl) (by simp) ?_
      refine AllReadyH.cons (o := ({ dst := none, op := Op.store 32 (Operand.tmp 8) (Operand.tmp 57), type := 0, pos := "law.go:50", after := #[{ on := 11, ground := Ground.data }, { on := 8, ground := Ground.data }, { on := 6, ground := Ground.chain }, { on := 0, ground := Ground.phase }, { on := 1, ground := Ground.phase }, { on := 2, ground := Ground.phase }, { on := 3, ground := Ground.phase }, { on := 4, ground := Ground.phase }, { on := 5, ground := Ground.phase }, { on := 6, ground := Ground.phase }, { on := 7, ground := Ground.phase }, { on := 8, ground := Ground.phase }, { on := 9, ground := Ground.textOnly Departure.lateStores }, { on := 10, ground := Ground.textOnly Departure.lateStores }, { on := 11, ground := Ground.phase }], guard := none } : Oper)) rfl (fun K hK => ?_) (AllReadyH.nil)
      obtain ⟨f0, f1, f2, f3⟩ := meet_facts hr2
      go_simp
      have hrQ := set_two hr2 (.int .i64 mx) (.int .i64 my)
      have hbQ : Below WP.heap.size WP ((W2.setCell ⟨gQ, 0, none⟩ (.int .i64 mx)).setCell ⟨gQ, 1, none⟩ (.int .i64 my)) := (hb2.setCell (p := ⟨gQ, 0, none⟩) hg2 _).setCell (p := ⟨gQ, 1, none⟩) hg2 _
      generalize ((W2.setCell ⟨gQ, 0, none⟩ (.int .i64 mx)).setCell ⟨gQ, 1, none⟩ (.int .i64 my)) = WQ at hrQ hbQ ⊢
      refine hK.out _ _ hbQ (fun _ => ?_)
      clear hK K
      (try simp only [Act.put, List.setIfInBounds_toArray, List.set_cons_zero, List.set_cons_succ])
      refine wpAnyH_take (i := 13) (oi := ({ dst := some 9, op := Op.assign (Operand.tmp 58), type := 4, pos := "law.go:50", after := #[{ on := 9, ground := Ground.data }, { on := 12, ground := Ground.chain }, { on := 0, ground := Ground.phase }, { on := 1, ground := Ground.phase }, { on := 2, ground := Ground.phase }, { on := 3, ground := Ground.phase }, { on := 4, ground := Ground.phase }, { on := 5, ground := Ground.phase }, { on := 6, ground := Ground.phase }, { on := 7, ground := Ground.phase }, { on := 8, ground := Ground.phase }, { on := 9, ground := Ground.phase }, { on := 10, ground := Ground.textOnly Departure.lateStores }, { on := 11, ground := Ground.phase }, { on := 12, ground := Ground.phase }], guard := none } : Oper)) (v := ?_) rfl (by kernel_rfl) (by kernel_rfl) (by kernel_rfl) (fun _ _ _ h => h) (Or.inl ⟨by rfl, ?_⟩) (by assumption) ?_
      rotate_left 1
      · intro v hSw
        (try go_simp)
        (try with_reducible rfl)
      (try simp only [Act.put, List.setIfInBounds_toArray, List.set_cons_zero, List.set_cons_succ])
      refine wpAnyH_take (i := 14) (oi := ({ dst := some 10, op := Op.assign (Operand.tmp 59), type := 22, pos := "law.go:50", after := #[{ on := 10, ground := Ground.data }, { on := 13, ground := Ground.chain }, { on := 0, ground := Ground.phase }, { on := 1, ground := Ground.phase }, { on := 2, ground := Ground.phase }, { on := 3, ground := Ground.phase }, { on := 4, ground := Ground.phase }, { on := 5, ground := Ground.phase }, { on := 6, ground := Ground.phase }, { on := 7, ground := Ground.phase }, { on := 8, ground := Ground.phase }, { on := 9, ground := Ground.phase }, { on := 10, ground := Ground.phase }, { on := 11, ground := Ground.phase }, { on := 12, ground := Ground.phase }, { on := 13, ground := Ground.phase }], guard := none } : Oper)) (v := ?_) rfl (by kernel_rfl) (by kernel_rfl) (by kernel_rfl) (fun _ _ _ h => h) (Or.inl ⟨by rfl, ?_⟩) (by assumption) ?_
      rotate_left 1
      · intro v hSw
        (try go_simp)
        (try with_reducible rfl)
      (try simp only [Act.put, List.setIfInBounds_toArray, List.set_cons_zero, List.set_cons_succ])
      refine wpAnyH_done (by kernel_rfl) ?_ _
      refine NoPanic.normal ?_
      have hrP := (hbQ.block _ HlP.out).trans HrP.out
      replace hbQ := bt HbP.out HbP.out.size hbQ
      clear hr2 hb2 hg2 f0 f1 f2 f3 hb1 hc hHeld
      go_wp2_with fail
      refine wp_region_noPanic ?_
      refine wp_region_held_drew (S := R6 w gP gQ mx my) (by kernel_rfl) (R6.mk hbQ.drew hrP hrQ) (fun hHeld => ?_)
      generalize WQ.drew = X0 at hHeld ⊢
      refine wpAnyH_take (i := 0) (oi := ({ dst := some 60, op := Op.load 32 (Operand.tmp 5), type := 32, pos := "law.go:51", after := #[], guard := none } : Oper)) (v := ?_) rfl (by kernel_rfl) (by kernel_rfl) (by kernel_rfl) (fun _ _ _ h => h) (Or.inl ⟨by rfl, ?_⟩) (by assumption) ?_
      rotate_left 1
      · intro v hSw
        have b0 := hSw.bel
        obtain ⟨f0, f1, -, -⟩ := meet_facts hSw.r1
        obtain ⟨k0, k1, -, -⟩ := meet_facts hSw.r2
        have s0 := (b0.cell HhA.out).trans C0.out
        have s1 := (b0.cell (show (⟨ad.block, ad.off + 1, none⟩ : Addr).block < _ from HhA.out)).trans C1.out
        have s2 := (b0.cell HhB.out).trans C2.out
        have s3 := (b0.cell (show (⟨ad2.block, ad2.off + 1, none⟩ : Addr).block < _ from HhB.out)).trans C3.out
        (try go_simp)
        (try with_reducible rfl)
      (try simp only [Act.put, List.setIfInBounds_toArray, List.set_cons_zero, List.set_cons_succ])
      refine wpAnyH_take (i := 1) (oi := ({ dst := some 61, op := Op.load 32 (Operand.tmp 8), type := 32, pos := "law.go:51", after := #[], guard := none } : Oper)) (v := ?_) rfl (by kernel_rfl) (by kernel_rfl) (by kernel_rfl) (fun _ _ _ h => h) (Or.inl ⟨by rfl, ?_⟩) (by assumption) ?_
      rotate_left 1
      · intro v hSw
        have b0 := hSw.bel
        obtain ⟨f0, f1, -, -⟩ := meet_facts hSw.r1
        obtain ⟨k0, k1, -, -⟩ := meet_facts hSw.r2
        have s0 := (b0.cell HhA.out).trans C0.out
        have s1 := (b0.cell (show (⟨ad.block, ad.off + 1, none⟩ : Addr).block < _ from HhA.out)).trans C1.out
        have s2 := (b0.cell HhB.out).trans C2.out
        have s3 := (b0.cell (show (⟨ad2.block, ad2.off + 1, none⟩ : Addr).block < _ from HhB.out)).trans C3.out
        (try go_simp)
        (try with_reducible rfl)
      (try simp only [Act.put, List.setIfInBounds_toArray, List.set_cons_zero, List.set_cons_succ])
      refine wpAnyH_take (i := 2) (oi := ({ dst := some 62, op := Op.binOp BinOp.neq 32 (Operand.tmp 60) (Operand.tmp 61) 32, type := 4, pos := "law.go:51", after := #[{ on := 0, ground := Ground.data }, { on := 1, ground := Ground.data }], guard := none } : Oper)) (v := ?_) rfl (by kernel_rfl) (by kernel_rfl) (by kernel_rfl) (fun _ _ _ h => h) (Or.inl ⟨by rfl, ?_⟩) (by assumption) ?_
      rotate_left 1
      · intro v hSw
        have b0 := hSw.bel
        obtain ⟨f0, f1, -, -⟩ := meet_facts hSw.r1
        obtain ⟨k0, k1, -, -⟩ := meet_facts hSw.r2
        have s0 := (b0.cell HhA.out).trans C0.out
        have s1 := (b0.cell (show (⟨ad.block, ad.off + 1, none⟩ : Addr).block < _ from HhA.out)).trans C1.out
        have s2 := (b0.cell HhB.out).trans C2.out
        have s3 := (b0.cell (show (⟨ad2.block, ad2.off + 1, none⟩ : Addr).block < _ from HhB.out)).trans C3.out
        (try go_simp)
        (try with_reducible rfl)
      (try simp only [Act.put, List.setIfInBounds_toArray, List.set_cons_zero, List.set_cons_succ])
      refine wpAnyH_take (i := 3) (oi := ({ dst := some 63, op := Op.move (Operand.tmp 62), type := 4, pos := "law.go:51", after := #[{ on := 2, ground := Ground.data }], guard := none } : Oper)) (v := ?_) rfl (by kernel_rfl) (by kernel_rfl) (by kernel_rfl) (fun _ _ _ h => h) (Or.inl ⟨by rfl, ?_⟩) (by assumption) ?_
      rotate_left 1
      · intro v hSw
        have b0 := hSw.bel
        obtain ⟨f0, f1, -, -⟩ := meet_facts hSw.r1
        obtain ⟨k0, k1, -, -⟩ := meet_facts hSw.r2
        have s0 := (b0.cell HhA.out).trans C0.out
        have s1 := (b0.cell (show (⟨ad.block, ad.off + 1, none⟩ : Addr).block < _ from HhA.out)).trans C1.out
        have s2 := (b0.cell HhB.out).trans C2.out
        have s3 := (b0.cell (show (⟨ad2.block, ad2.off + 1, none⟩ : Addr).block < _ from HhB.out)).trans C3.out
        (try go_simp)
        (try with_reducible rfl)
      (try simp only [Act.put, List.setIfInBounds_toArray, List.set_cons_zero, List.set_cons_succ])
      refine wpAnyH_take (i := 4) (oi := ({ dst := some 64, op := Op.move (Operand.tmp 6), type := 4, pos := "law.go:51", after := #[{ on := 3, ground := Ground.guard }], guard := some (3, false) } : Oper)) (v := ?_) rfl (by kernel_rfl) (by kernel_rfl) (by kernel_rfl) (fun _ _ _ h => h) (Or.inl ⟨by rfl, ?_⟩) (by assumption) ?_
      rotate_left 1
      · intro v hSw
        have b0 := hSw.bel
        obtain ⟨f0, f1, -, -⟩ := meet_facts hSw.r1
        obtain ⟨k0, k1, -, -⟩ := meet_facts hSw.r2
        have s0 := (b0.cell HhA.out).trans C0.out
        have s1 := (b0.cell (show (⟨ad.block, ad.off + 1, none⟩ : Addr).block < _ from HhA.out)).trans C1.out
        have s2 := (b0.cell HhB.out).trans C2.out
        have s3 := (b0.cell (show (⟨ad2.block, ad2.off + 1, none⟩ : Addr).block < _ from HhB.out)).trans C3.out
        (try go_simp)
        (try with_reducible rfl)
      (try simp only [Act.put, List.setIfInBounds_toArray, List.set_cons_zero, List.set_cons_succ])
      refine wpAnyH_take (i := 5) (oi := ({ dst := some 65, op := Op.move (Operand.tmp 9), type := 4, pos := "law.go:51", after := #[{ on := 3, ground := Ground.guard }], guard := some (3, false) } : Oper)) (v := ?_) rfl (by kernel_rfl) (by kernel_rfl) (by kernel_rfl) (fun _ _ _ h => h) (Or.inl ⟨by rfl, ?_⟩) (by assumption) ?_
      rotate_left 1
      · intro v hSw
        have b0 := hSw.bel
        obtain ⟨f0, f1, -, -⟩ := meet_facts hSw.r1
        obtain ⟨k0, k1, -, -⟩ := meet_facts hSw.r2
        have s0 := (b0.cell HhA.out).trans C0.out
        have s1 := (b0.cell (show (⟨ad.block, ad.off + 1, none⟩ : Addr).block < _ from HhA.out)).trans C1.out
        have s2 := (b0.cell HhB.out).trans C2.out
        have s3 := (b0.cell (show (⟨ad2.block, ad2.off + 1, none⟩ : Addr).block < _ from HhB.out)).trans C3.out
        (try go_simp)
        (try with_reducible rfl)
      (try simp only [Act.put, List.setIfInBounds_toArray, List.set_cons_zero, List.set_cons_succ])
      refine wpAnyH_take (i := 6) (oi := ({ dst := some 66, op := Op.binOp BinOp.neq 4 (Operand.tmp 64) (Operand.tmp 65) 4, type := 4, pos := "law.go:51", after := #[{ on := 4, ground := Ground.data }, { on := 5, ground := Ground.data }, { on := 3, ground := Ground.guard }], guard := some (3, false) } : Oper)) (v := ?_) rfl (by kernel_rfl) (by kernel_rfl) (by kernel_rfl) (fun _ _ _ h => h) (Or.inl ⟨by rfl, ?_⟩) (by assumption) ?_
      rotate_left 1
      · intro v hSw
        have b0 := hSw.bel
        obtain ⟨f0, f1, -, -⟩ := meet_facts hSw.r1
        obtain ⟨k0, k1, -, -⟩ := meet_facts hSw.r2
        have s0 := (b0.cell HhA.out).trans C0.out
        have s1 := (b0.cell (show (⟨ad.block, ad.off + 1, none⟩ : Addr).block < _ from HhA.out)).trans C1.out
        have s2 := (b0.cell HhB.out).trans C2.out
        have s3 := (b0.cell (show (⟨ad2.block, ad2.off + 1, none⟩ : Addr).block < _ from HhB.out)).trans C3.out
        (try go_simp)
        (try with_reducible rfl)
      (try simp only [Act.put, List.setIfInBounds_toArray, List.set_cons_zero, List.set_cons_succ])
      refine wpAnyH_take (i := 7) (oi := ({ dst := some 67, op := Op.pick (Operand.tmp 63) (Operand.const (Value.bool true)) (Operand.tmp 66), type := 4, pos := "law.go:51", after := #[{ on := 3, ground := Ground.data }, { on := 6, ground := Ground.data }], guard := none } : Oper)) (v := ?_) rfl (by kernel_rfl) (by kernel_rfl) (by kernel_rfl) (fun _ _ _ h => h) (Or.inl ⟨by rfl, ?_⟩) (by assumption) ?_
      rotate_left 1
      · intro v hSw
        have b0 := hSw.bel
        obtain ⟨f0, f1, -, -⟩ := meet_facts hSw.r1
        obtain ⟨k0, k1, -, -⟩ := meet_facts hSw.r2
        have s0 := (b0.cell HhA.out).trans C0.out
        have s1 := (b0.cell (show (⟨ad.block, ad.off + 1, none⟩ : Addr).block < _ from HhA.out)).trans C1.out
        have s2 := (b0.cell HhB.out).trans C2.out
        have s3 := (b0.cell (show (⟨ad2.block, ad2.off + 1, none⟩ : Addr).block < _ from HhB.out)).trans C3.out
        (try go_simp)
        (try with_reducible rfl)
      (try simp only [Act.put, List.setIfInBounds_toArray, List.set_cons_zero, List.set_cons_succ])
      refine wpAnyH_take (i := 8) (oi := ({ dst := some 68, op := Op.move (Operand.tmp 67), type := 4, pos := "law.go:51", after := #[{ on := 7, ground := Ground.data }, { on := 3, ground := Ground.chain }], guard := none } : Oper)) (v := ?_) rfl (by kernel_rfl) (by kernel_rfl) (by kernel_rfl) (fun _ _ _ h => h) (Or.inl ⟨by rfl, ?_⟩) (by assumption) ?_
      rotate_left 1
      · intro v hSw
        have b0 := hSw.bel
        obtain ⟨f0, f1, -, -⟩ := meet_facts hSw.r1
        obtain ⟨k0, k1, -, -⟩ := meet_facts hSw.r2
        have s0 := (b0.cell HhA.out).trans C0.out
        have s1 := (b0.cell (show (⟨ad.block, ad.off + 1, none⟩ : Addr).block < _ from HhA.out)).trans C1.out
        have s2 := (b0.cell HhB.out).trans C2.out
        have s3 := (b0.cell (show (⟨ad2.block, ad2.off + 1, none⟩ : Addr).block < _ from HhB.out)).trans C3.out
        (try go_simp)
        (try with_reducible rfl)
      (try simp only [Act.put, List.setIfInBounds_toArray, List.set_cons_zero, List.set_cons_succ])
      refine wpAnyH_take (i := 9) (oi := ({ dst := some 69, op := Op.move (Operand.tmp 7), type := 22, pos := "law.go:51", after := #[{ on := 8, ground := Ground.guard }], guard := some (8, false) } : Oper)) (v := ?_) rfl (by kernel_rfl) (by kernel_rfl) (by kernel_rfl) (fun _ _ _ h => h) (Or.inl ⟨by rfl, ?_⟩) (by assumption) ?_
      rotate_left 1
      · intro v hSw
        have b0 := hSw.bel
        obtain ⟨f0, f1, -, -⟩ := meet_facts hSw.r1
        obtain ⟨k0, k1, -, -⟩ := meet_facts hSw.r2
        have s0 := (b0.cell HhA.out).trans C0.out
        have s1 := (b0.cell (show (⟨ad.block, ad.off + 1, none⟩ : Addr).block < _ from HhA.out)).trans C1.out
        have s2 := (b0.cell HhB.out).trans C2.out
        have s3 := (b0.cell (show (⟨ad2.block, ad2.off + 1, none⟩ : Addr).block < _ from HhB.out)).trans C3.out
        (try go_simp)
        (try with_reducible rfl)
      (try simp only [Act.put, List.setIfInBounds_toArray, List.set_cons_zero, List.set_cons_succ])
      refine wpAnyH_take (i := 10) (oi := ({ dst := some 70, op := Op.move (Operand.tmp 10), type := 22, pos := "law.go:51", after := #[{ on := 8, ground := Ground.guard }], guard := some (8, false) } : Oper)) (v := ?_) rfl (by kernel_rfl) (by kernel_rfl) (by kernel_rfl) (fun _ _ _ h => h) (Or.inl ⟨by rfl, ?_⟩) (by assumption) ?_
      rotate_left 1
      · intro v hSw
        have b0 := hSw.bel
        obtain ⟨f0, f1, -, -⟩ := meet_facts hSw.r1
        obtain ⟨k0, k1, -, -⟩ := meet_facts hSw.r2
        have s0 := (b0.cell HhA.out).trans C0.out
        have s1 := (b0.cell (show (⟨ad.block, ad.off + 1, none⟩ : Addr).block < _ from HhA.out)).trans C1.out
        have s2 := (b0.cell HhB.out).trans C2.out
        have s3 := (b0.cell (show (⟨ad2.block, ad2.off + 1, none⟩ : Addr).block < _ from HhB.out)).trans C3.out
        (try go_simp)
        (try with_reducible rfl)
      (try simp only [Act.put, List.setIfInBounds_toArray, List.set_cons_zero, List.set_cons_succ])
      refine wpAnyH_take (i := 11) (oi := ({ dst := some 71, op := Op.binOp BinOp.neq 22 (Operand.tmp 69) (Operand.tmp 70) 22, type := 4, pos := "law.go:51", after := #[{ on := 9, ground := Ground.data }, { on := 10, ground := Ground.data }, { on := 8, ground := Ground.guard }], guard := some (8, false) } : Oper)) (v := ?_) rfl (by kernel_rfl) (by kernel_rfl) (by kernel_rfl) (fun _ _ _ h => h) (Or.inl ⟨by rfl, ?_⟩) (by assumption) ?_
      rotate_left 1
      · intro v hSw
        have b0 := hSw.bel
        obtain ⟨f0, f1, -, -⟩ := meet_facts hSw.r1
        obtain ⟨k0, k1, -, -⟩ := meet_facts hSw.r2
        have s0 := (b0.cell HhA.out).trans C0.out
        have s1 := (b0.cell (show (⟨ad.block, ad.off + 1, none⟩ : Addr).block < _ from HhA.out)).trans C1.out
        have s2 := (b0.cell HhB.out).trans C2.out
        have s3 := (b0.cell (show (⟨ad2.block, ad2.off + 1, none⟩ : Addr).block < _ from HhB.out)).trans C3.out
        (try go_simp)
        (try with_reducible rfl)
      (try simp only [Act.put, List.setIfInBounds_toArray, List.set_cons_zero, List.set_cons_succ])
      refine wpAnyH_take (i := 12) (oi := ({ dst := some 72, op := Op.pick (Operand.tmp 68) (Operand.const (Value.bool true)) (Operand.tmp 71), type := 4, pos := "law.go:51", after := #[{ on := 8, ground := Ground.data }, { on := 11, ground := Ground.data }], guard := none } : Oper)) (v := ?_) rfl (by kernel_rfl) (by kernel_rfl) (by kernel_rfl) (fun _ _ _ h => h) (Or.inl ⟨by rfl, ?_⟩) (by assumption) ?_
      rotate_left 1
      · intro v hSw
        have b0 := hSw.bel
        obtain ⟨f0, f1, -, -⟩ := meet_facts hSw.r1
        obtain ⟨k0, k1, -, -⟩ := meet_facts hSw.r2
        have s0 := (b0.cell HhA.out).trans C0.out
        have s1 := (b0.cell (show (⟨ad.block, ad.off + 1, none⟩ : Addr).block < _ from HhA.out)).trans C1.out
        have s2 := (b0.cell HhB.out).trans C2.out
        have s3 := (b0.cell (show (⟨ad2.block, ad2.off + 1, none⟩ : Addr).block < _ from HhB.out)).trans C3.out
        (try go_simp)
        (try with_reducible rfl)
      (try simp only [Act.put, List.setIfInBounds_toArray, List.set_cons_zero, List.set_cons_succ])
      refine wpAnyH_take (i := 13) (oi := ({ dst := some 73, op := Op.move (Operand.tmp 72), type := 4, pos := "law.go:51", after := #[{ on := 12, ground := Ground.data }, { on := 8, ground := Ground.chain }], guard := none } : Oper)) (v := ?_) rfl (by kernel_rfl) (by kernel_rfl) (by kernel_rfl) (fun _ _ _ h => h) (Or.inl ⟨by rfl, ?_⟩) (by assumption) ?_
      rotate_left 1
      · intro v hSw
        have b0 := hSw.bel
        obtain ⟨f0, f1, -, -⟩ := meet_facts hSw.r1
        obtain ⟨k0, k1, -, -⟩ := meet_facts hSw.r2
        have s0 := (b0.cell HhA.out).trans C0.out
        have s1 := (b0.cell (show (⟨ad.block, ad.off + 1, none⟩ : Addr).block < _ from HhA.out)).trans C1.out
        have s2 := (b0.cell HhB.out).trans C2.out
        have s3 := (b0.cell (show (⟨ad2.block, ad2.off + 1, none⟩ : Addr).block < _ from HhB.out)).trans C3.out
        (try go_simp)
        (try with_reducible rfl)
      (try simp only [Act.put, List.setIfInBounds_toArray, List.set_cons_zero, List.set_cons_succ])
      refine wpAnyH_take (i := 14) (oi := ({ dst := some 74, op := Op.move (Operand.tmp 0), type := 29, pos := "law.go:51", after := #[{ on := 13, ground := Ground.guard }], guard := some (13, false) } : Oper)) (v := ?_) rfl (by kernel_rfl) (by kernel_rfl) (by kernel_rfl) (fun _ _ _ h => h) (Or.inl ⟨by rfl, ?_⟩) (by assumption) ?_
      rotate_left 1
      · intro v hSw
        have b0 := hSw.bel
        obtain ⟨f0, f1, -, -⟩ := meet_facts hSw.r1
        obtain ⟨k0, k1, -, -⟩ := meet_facts hSw.r2
        have s0 := (b0.cell HhA.out).trans C0.out
        have s1 := (b0.cell (show (⟨ad.block, ad.off + 1, none⟩ : Addr).block < _ from HhA.out)).trans C1.out
        have s2 := (b0.cell HhB.out).trans C2.out
        have s3 := (b0.cell (show (⟨ad2.block, ad2.off + 1, none⟩ : Addr).block < _ from HhB.out)).trans C3.out
        (try go_simp)
        (try with_reducible rfl)
      (try simp only [Act.put, List.setIfInBounds_toArray, List.set_cons_zero, List.set_cons_succ])
      refine wpAnyH_take (i := 15) (oi := ({ dst := some 75, op := Op.indexAddr 29 (Operand.tmp 74) (Operand.const (Value.int IntKind.i64 0)), type := 0, pos := "law.go:51", after := #[{ on := 14, ground := Ground.data }, { on := 13, ground := Ground.guard }], guard := some (13, false) } : Oper)) (v := ?_) rfl (by kernel_rfl) (by kernel_rfl) (by kernel_rfl) (fun _ _ _ h => h) (Or.inl ⟨by rfl, ?_⟩) (by assumption) ?_
      rotate_left 1
      · intro v hSw
        have b0 := hSw.bel
        obtain ⟨f0, f1, -, -⟩ := meet_facts hSw.r1
        obtain ⟨k0, k1, -, -⟩ := meet_facts hSw.r2
        have s0 := (b0.cell HhA.out).trans C0.out
        have s1 := (b0.cell (show (⟨ad.block, ad.off + 1, none⟩ : Addr).block < _ from HhA.out)).trans C1.out
        have s2 := (b0.cell HhB.out).trans C2.out
        have s3 := (b0.cell (show (⟨ad2.block, ad2.off + 1, none⟩ : Addr).block < _ from HhB.out)).trans C3.out
        (try go_simp)
        (try with_reducible rfl)
      (try simp only [Act.put, List.setIfInBounds_toArray, List.set_cons_zero, List.set_cons_succ])
      refine wpAnyH_take (i := 16) (oi := ({ dst := some 76, op := Op.load 32 (Operand.tmp 75), type := 32, pos := "law.go:51", after := #[{ on := 15, ground := Ground.data }, { on := 13, ground := Ground.guard }], guard := some (13, false) } : Oper)) (v := ?_) rfl (by kernel_rfl) (by kernel_rfl) (by kernel_rfl) (fun _ _ _ h => h) (Or.inl ⟨by rfl, ?_⟩) (by assumption) ?_
      rotate_left 1
      · intro v hSw
        have b0 := hSw.bel
        obtain ⟨f0, f1, -, -⟩ := meet_facts hSw.r1
        obtain ⟨k0, k1, -, -⟩ := meet_facts hSw.r2
        have s0 := (b0.cell HhA.out).trans C0.out
        have s1 := (b0.cell (show (⟨ad.block, ad.off + 1, none⟩ : Addr).block < _ from HhA.out)).trans C1.out
        have s2 := (b0.cell HhB.out).trans C2.out
        have s3 := (b0.cell (show (⟨ad2.block, ad2.off + 1, none⟩ : Addr).block < _ from HhB.out)).trans C3.out
        (try go_simp)
        (try with_reducible rfl)
      (try simp only [Act.put, List.setIfInBounds_toArray, List.set_cons_zero, List.set_cons_succ])
      refine wpAnyH_take (i := 18) (oi := ({ dst := some 78, op := Op.move (Operand.tmp 0), type := 29, pos := "law.go:51", after := #[{ on := 13, ground := Ground.guard }], guard := some (13, false) } : Oper)) (v := ?_) rfl (by kernel_rfl) (by kernel_rfl) (by kernel_rfl) (fun _ _ _ h => h) (Or.inl ⟨by rfl, ?_⟩) (by assumption) ?_
      rotate_left 1
      · intro v hSw
        have b0 := hSw.bel
        obtain ⟨f0, f1, -, -⟩ := meet_facts hSw.r1
        obtain ⟨k0, k1, -, -⟩ := meet_facts hSw.r2
        have s0 := (b0.cell HhA.out).trans C0.out
        have s1 := (b0.cell (show (⟨ad.block, ad.off + 1, none⟩ : Addr).block < _ from HhA.out)).trans C1.out
        have s2 := (b0.cell HhB.out).trans C2.out
        have s3 := (b0.cell (show (⟨ad2.block, ad2.off + 1, none⟩ : Addr).block < _ from HhB.out)).trans C3.out
        (try go_simp)
        (try with_reducible rfl)
      (try simp only [Act.put, List.setIfInBounds_toArray, List.set_cons_zero, List.set_cons_succ])
      refine wpAnyH_take (i := 19) (oi := ({ dst := some 79, op := Op.indexAddr 29 (Operand.tmp 78) (Operand.const (Value.int IntKind.i64 0)), type := 0, pos := "law.go:51", after := #[{ on := 18, ground := Ground.data }, { on := 13, ground := Ground.guard }], guard := some (13, false) } : Oper)) (v := ?_) rfl (by kernel_rfl) (by kernel_rfl) (by kernel_rfl) (fun _ _ _ h => h) (Or.inl ⟨by rfl, ?_⟩) (by assumption) ?_
      rotate_left 1
      · intro v hSw
        have b0 := hSw.bel
        obtain ⟨f0, f1, -, -⟩ := meet_facts hSw.r1
        obtain ⟨k0, k1, -, -⟩ := meet_facts hSw.r2
        have s0 := (b0.cell HhA.out).trans C0.out
        have s1 := (b0.cell (show (⟨ad.block, ad.off + 1, none⟩ : Addr).block < _ from HhA.out)).trans C1.out
        have s2 := (b0.cell HhB.out).trans C2.out
        have s3 := (b0.cell (show (⟨ad2.block, ad2.off + 1, none⟩ : Addr).block < _ from HhB.out)).trans C3.out
        (try go_simp)
        (try with_reducible rfl)
      (try simp only [Act.put, List.setIfInBounds_toArray, List.set_cons_zero, List.set_cons_succ])
      refine wpAnyH_take (i := 20) (oi := ({ dst := some 80, op := Op.load 32 (Operand.tmp 79), type := 32, pos := "law.go:51", after := #[{ on := 19, ground := Ground.data }, { on := 13, ground := Ground.guard }], guard := some (13, false) } : Oper)) (v := ?_) rfl (by kernel_rfl) (by kernel_rfl) (by kernel_rfl) (fun _ _ _ h => h) (Or.inl ⟨by rfl, ?_⟩) (by assumption) ?_
      rotate_left 1
      · intro v hSw
        have b0 := hSw.bel
        obtain ⟨f0, f1, -, -⟩ := meet_facts hSw.r1
        obtain ⟨k0, k1, -, -⟩ := meet_facts hSw.r2
        have s0 := (b0.cell HhA.out).trans C0.out
        have s1 := (b0.cell (show (⟨ad.block, ad.off + 1, none⟩ : Addr).block < _ from HhA.out)).trans C1.out
        have s2 := (b0.cell HhB.out).trans C2.out
        have s3 := (b0.cell (show (⟨ad2.block, ad2.off + 1, none⟩ : Addr).block < _ from HhB.out)).trans C3.out
        (try go_simp)
        (try with_reducible rfl)
      (try simp only [Act.put, List.setIfInBounds_toArray, List.set_cons_zero, List.set_cons_succ])
      refine wpAnyH_ready (rs := [17]) (by kernel_rfl) (by simp) ?_
      refine AllReadyH.cons (o := ({ dst := some 77, op := Op.call { callee := Callee.value (Operand.func 22), args := #[Operand.tmp 76], argTypes := #[32] }, type := 22, pos := "law.go:51", after := #[{ on := 16, ground := Ground.data }, { on := 13, ground := Ground.chain }, { on := 13, ground := Ground.guard }], guard := some (13, false) } : Oper)) rfl (fun K hK => ?_) (AllReadyH.nil)
      go_simp
      refine (K1.out X0).mono ?_
      rintro e X1 ⟨rfl, hc⟩
      have hH1 := hHeld.on hc
      refine hK.out _ _ hH1 (fun _ => ?_)
      clear hK K
      (try simp only [Act.put, List.setIfInBounds_toArray, List.set_cons_zero, List.set_cons_succ])
      refine wpAnyH_ready (rs := [21]) (by kernel_rfl) (by simp) ?_
      refine AllReadyH.cons (o := ({ dst := some 81, op := Op.call { callee := Callee.value (Operand.func 23), args := #[Operand.tmp 80], argTypes := #[32] }, type := 22, pos := "law.go:51", after := #[{ on := 20, ground := Ground.data }, { on := 17, ground := Ground.chain }, { on := 13, ground := Ground.guard }], guard := some (13, false) } : Oper)) rfl (fun K hK => ?_) (AllReadyH.nil)
      go_simp
      refine (K2.out X1).mono ?_
      rintro e W6 ⟨rfl, hc'⟩
      have hH2 := hH1.on hc'
      refine hK.out _ _ hH2 (fun _ => ?_)
      clear hK K
      (try simp only [Act.put, List.setIfInBounds_toArray, List.set_cons_zero, List.set_cons_succ])
      refine wpAnyH_take (i := 22) (oi := ({ dst := some 82, op := Op.binOp BinOp.neq 22 (Operand.tmp 77) (Operand.tmp 81) 22, type := 4, pos := "law.go:51", after := #[{ on := 17, ground := Ground.data }, { on := 21, ground := Ground.data }, { on := 13, ground := Ground.guard }], guard := some (13, false) } : Oper)) (v := ?_) rfl (by kernel_rfl) (by kernel_rfl) (by kernel_rfl) (fun _ _ _ h => h) (Or.inl ⟨by rfl, ?_⟩) (by assumption) ?_
      rotate_left 1
      · intro v hSw
        (try go_simp)
        (try with_reducible rfl)
      (try simp only [Act.put, List.setIfInBounds_toArray, List.set_cons_zero, List.set_cons_succ])
      refine wpAnyH_take (i := 23) (oi := ({ dst := some 83, op := Op.pick (Operand.tmp 73) (Operand.const (Value.bool true)) (Operand.tmp 82), type := 4, pos := "law.go:51", after := #[{ on := 13, ground := Ground.data }, { on := 22, ground := Ground.data }], guard := none } : Oper)) (v := ?_) rfl (by kernel_rfl) (by kernel_rfl) (by kernel_rfl) (fun _ _ _ h => h) (Or.inl ⟨by rfl, ?_⟩) (by assumption) ?_
      rotate_left 1
      · intro v hSw
        (try go_simp)
        (try with_reducible rfl)
      (try simp only [Act.put, List.setIfInBounds_toArray, List.set_cons_zero, List.set_cons_succ])
      refine wpAnyH_done (by kernel_rfl) ?_ _
      refine NoPanic.normal ?_
      have hb0 := hH2.bel
      clear hHeld hH1 hH2 hc hc' hrP hrQ hbQ
      go_wp2_with fail
      refine (U1.out W6 (HA.out.on hb0)).mono ?_
      intro e w1 hp
      obtain ⟨Au, cu, Mu, u, rfl, hsu, hmu, hcu, hnu, hb⟩ := hp.rd G1.out
      have hb1 := bt hb0 hb0.size hb
      clear hb
      have HSu := Lib.hid hsu
      have Hmu := Lib.hid hmu
      have Hcu := Lib.hid hcu
      have Hnu := Lib.hid hnu
      clear hp hsu hmu hcu hnu
      go_wp2_with fail
      refine (U2.out w1 (HA.out.on hb1)).mono ?_
      intro e w2 hp
      obtain ⟨Av, cv, Mv, u', rfl, hsv, hmv, hcv, hnv, hb⟩ := hp.rd G1.out
      have hb2 := bt hb1 hb1.size hb
      have heq := T.same_lists Hcu.out Hnu.out hcv hnv
      have hmm : Mv = Mu := by rw [← hmv, ← Hmu.out, heq]
      rw [← heq] at hsv
      rw [hmm]
      have HSu2 := Lib.hid (HSu.out.on hb)
      have HSv2 := Lib.hid hsv
      clear hp hsv hmv hcv hnv hb hb1 heq hmm HSu
      go_wp2_with fail
      refine (M1.out w2 (HA.out.on hb2) (HB.out.on hb2)).mono ?_
      intro e w3 hp
      obtain ⟨Am, cm, Mm, r, rfl, hsm, hmm, hcm', hnm, hb⟩ := hp.rd G2.out
      have hb3 := bt hb2 hb2.size hb
      have HSu3 := Lib.hid (HSu2.out.on hb)
      have HSv3 := Lib.hid (HSv2.out.on hb)
      have HSm3 := Lib.hid hsm
      have Hmm := Lib.hid hmm
      have Hcm := Lib.hid hcm'
      have Hnm := Lib.hid hnm
      clear hp hsm hmm hcm' hnm hb hb2 HSu2 HSv2
      go_wp2_with fail
      refine (M2.out w3 (HA.out.on hb3) (HB.out.on hb3)).mono ?_
      intro e w4 hp
      obtain ⟨An, cn, Mn, r', rfl, hsn, hmn, hcn, hnn, hb⟩ := hp.rd G2.out
      have hb4 := bt hb3 hb3.size hb
      have heq := T.same_lists Hcm.out Hnm.out hcn hnn
      have hme : Mn = Mm := by rw [← hmn, ← Hmm.out, heq]
      rw [← heq] at hsn
      rw [hme]
      have HSu4 := Lib.hid (HSu3.out.on hb)
      have HSv4 := Lib.hid (HSv3.out.on hb)
      have HSm4 := Lib.hid (HSm3.out.on hb)
      have HSn4 := Lib.hid hsn
      clear hp hsn hmn hcn hnn hb hb3 heq hme HSu3 HSv3 HSm3
      go_wp2_with fail
      refine (T1.out w4 (HA.out.on hb4)).mono ?_
      rintro e w5 ⟨V, he, k1, k2, hb⟩
      unfold T.pr at he
      subst he
      have hb5 := bt hb4 hb4.size hb
      have K1 := Lib.hid k1
      have K2 := Lib.hid k2
      have HSu5 := Lib.hid (HSu4.out.on hb)
      have HSv5 := Lib.hid (HSv4.out.on hb)
      have HSm5 := Lib.hid (HSm4.out.on hb)
      have HSn5 := Lib.hid (HSn4.out.on hb)
      clear k1 k2 hb hb4 HSu4 HSv4 HSm4 HSn4
      go_wp2_with fail
      refine (T2.out w5 (HA.out.on hb5)).mono ?_
      rintro e w6 ⟨V', he, k1, k2, hb⟩
      unfold T.pr at he
      subst he
      have hb6 := bt hb5 hb5.size hb
      have heq := T.same_sums K1.out K2.out k1 k2
      rw [← heq]
      have HSu6 := Lib.hid (HSu5.out.on hb)
      have HSv6 := Lib.hid (HSv5.out.on hb)
      have HSm6 := Lib.hid (HSm5.out.on hb)
      have HSn6 := Lib.hid (HSn5.out.on hb)
      clear k1 k2 hb hb5 heq HSu5 HSv5 HSm5 HSn5
      go_wp2_with fail
      refine (RSame_eq Au Av cu cv Mu u w6 HSu6.out HSv6.out Hmu.out).mono ?_
      rintro e w7 ⟨rfl, hb⟩
      have hb7 := bt hb6 hb6.size hb
      have HSm7 := Lib.hid (HSm6.out.on hb)
      have HSn7 := Lib.hid (HSn6.out.on hb)
      clear hb hb6 HSu6 HSv6 HSm6 HSn6
      go_wp2_with fail
      refine (RSame_eq Am An cm cn Mm r w7 HSm7.out HSn7.out Hmm.out).mono ?_
      rintro e w8 ⟨rfl, hb⟩
      have hb8 := bt hb7 hb7.size hb
      have HW := Lib.hid (awake_any w8 (HT.out.on hb8))
      clear hb hb7 HSm7 HSn7
      go_wp2_with fail
      refine HW.out.mono ?_
      rintro e w9 ⟨rfl, hb⟩
      have hb9 := bt hb8 hb8.size hb
      go_wp2_with fail
      go_ret
      exact ⟨rfl, hb9⟩
    · skip
      go_simp
      have hb1 : Below WP.heap.size WP (X0.alloc (.cells #[.int .i64 0, .int .i64 0] 32)) := bt hHeld hHeld.size (below_new _ _)
      have hr1 := World.alloc_heap_new X0 (.cells #[.int .i64 0, .int .i64 0] 32)
      have hl1 : X0.heap.size < (X0.alloc (.cells #[.int .i64 0, .int .i64 0] 32)).heap.size := by simp
      have hg2 := hHeld.size
      generalize (X0.alloc (.cells #[.int .i64 0, .int .i64 0] 32)) = X1 at hb1 hr1 hl1 ⊢
      generalize X0.heap.size = gQ at hr1 hl1 hg2 ⊢
      refine hK.out _ _ hb1 (fun _ => ?_)
      clear hK K
      (try simp only [Act.put, List.setIfInBounds_toArray, List.set_cons_zero, List.set_cons_succ])
      refine wpAnyH_ready (rs := [6]) (by kernel_rfl) (by simp) ?_
      refine AllReadyH.cons (o := ({ dst := some 56, op := Op.call { callee := Callee.value (Operand.func 21), args := #[Operand.tmp 52, Operand.tmp 55], argTypes := #[32, 32] }, type := 33, pos := "law.go:50", after := #[{ on := 2, ground := Ground.data }, { on := 5, ground := Ground.data }], guard := none } : Oper)) rfl (fun K hK => ?_) (AllReadyH.nil)
      go_simp
      refine (MB.out X1).mono ?_
      rintro e W1 ⟨rfl, hc⟩
      have hb2 : Below WP.heap.size WP W1 := bt hb1 hb1.size hc
      have hr2 := (hc.block _ hl1).trans hr1
      generalize W1 = W2 at hb2 hr2 ⊢
      refine hK.out _ _ hb2 (fun _ => ?_)
      clear hK K
      (try simp only [Act.put, List.setIfInBounds_toArray, List.set_cons_zero, List.set_cons_succ])
      refine wpAnyH_take (i := 7) (oi := ({ dst := some 49, op := Op.move (Operand.tmp 56), type := 33, pos := "law.go:50", after := #[{ on := 6, ground := Ground.data }], guard := none } : Oper)) (v := ?_) rfl (by kernel_rfl) (by kernel_rfl) (by kernel_rfl) (fun _ _ _ h => h) (Or.inl ⟨by rfl, ?_⟩) (by assumption) ?_
      rotate_left 1
      · intro v hSw
        (try go_simp)
        (try with_reducible rfl)
      (try simp only [Act.put, List.setIfInBounds_toArray, List.set_cons_zero, List.set_cons_succ])
      refine wpAnyH_take (i := 8) (oi := ({ dst := some 57, op := Op.extract (Operand.tmp 49) 0, type := 32, pos := "law.go:50", after := #[{ on := 7, ground := Ground.data }], guard := none } : Oper)) (v := ?_) rfl (by kernel_rfl) (by kernel_rfl) (by kernel_rfl) (fun _ _ _ h => h) (Or.inl ⟨by rfl, ?_⟩) (by assumption) ?_
      rotate_left 1
      · intro v hSw
        (try go_simp)
        (try with_reducible rfl)
      (try simp only [Act.put, List.setIfInBounds_toArray, List.set_cons_zero, List.set_cons_succ])
      refine wpAnyH_take (i := 9) (oi := ({ dst := some 58, op := Op.extract (Operand.tmp 49) 1, type := 4, pos := "law.go:50", after := #[{ on := 7, ground := Ground.data }, { on := 12, ground := Ground.gcOnly Departure.lateStores }], guard := none } : Oper)) (v := ?_) rfl (by kernel_rfl) (by kernel_rfl) (by kernel_rfl) (fun _ _ _ h => h) (Or.inl ⟨by rfl, ?_⟩) (by assumption) ?_
      rotate_left 1
      · intro v hSw
        (try go_simp)
        (try with_reducible rfl)
      (try simp only [Act.put, List.setIfInBounds_toArray, List.set_cons_zero, List.set_cons_succ])
      refine wpAnyH_take (i := 10) (oi := ({ dst := some 59, op := Op.extract (Operand.tmp 49) 2, type := 22, pos := "law.go:50", after := #[{ on := 7, ground := Ground.data }, { on := 13, ground := Ground.gcOnly Departure.lateStores }], guard := none } : Oper)) (v := ?_) rfl (by kernel_rfl) (by kernel_rfl) (by kernel_rfl) (fun _ _ _ h => h) (Or.inl ⟨by rfl, ?_⟩) (by assumption) ?_
      rotate_left 1
      · intro v hSw
        (try go_simp)
        (try with_reducible rfl)
      (try simp only [Act.put, List.setIfInBounds_toArray, List.set_cons_zero, List.set_cons_succ])
      refine wpAnyH_ready (rs := [12]) (by kernel_rfl) (by simp) ?_
      refine AllReadyH.cons (o := ({ dst := none, op := Op.store 32 (Operand.tmp 8) (Operand.tmp 57), type := 0, pos := "law.go:50", after := #[{ on := 11, ground := Ground.data }, { on := 8, ground := Ground.data }, { on := 6, ground := Ground.chain }, { on := 0, ground := Ground.phase }, { on := 1, ground := Ground.phase }, { on := 2, ground := Ground.phase }, { on := 3, ground := Ground.phase }, { on := 4, ground := Ground.phase }, { on := 5, ground := Ground.phase }, { on := 6, ground := Ground.phase }, { on := 7, ground := Ground.phase }, { on := 8, ground := Ground.phase }, { on := 9, ground := Ground.textOnly Departure.lateStores }, { on := 10, ground := Ground.textOnly Departure.lateStores }, { on := 11, ground := Ground.phase }], guard := none } : Oper)) rfl (fun K hK => ?_) (AllReadyH.nil)
      obtain ⟨f0, f1, f2, f3⟩ := meet_facts hr2
      go_simp
      have hrQ := set_two hr2 (.int .i64 mx) (.int .i64 my)
      have hbQ : Below WP.heap.size WP ((W2.setCell ⟨gQ, 0, none⟩ (.int .i64 mx)).setCell ⟨gQ, 1, none⟩ (.int .i64 my)) := (hb2.setCell (p := ⟨gQ, 0, none⟩) hg2 _).setCell (p := ⟨gQ, 1, none⟩) hg2 _
      generalize ((W2.setCell ⟨gQ, 0, none⟩ (.int .i64 mx)).setCell ⟨gQ, 1, none⟩ (.int .i64 my)) = WQ at hrQ hbQ ⊢
      refine hK.out _ _ hbQ (fun _ => ?_)
      clear hK K
      (try simp only [Act.put, List.setIfInBounds_toArray, List.set_cons_zero, List.set_cons_succ])
      refine wpAnyH_take (i := 13) (oi := ({ dst := some 9, op := Op.assign (Operand.tmp 58), type := 4, pos := "law.go:50", after := #[{ on := 9, ground := Ground.data }, { on := 12, ground := Ground.chain }, { on := 0, ground := Ground.phase }, { on := 1, ground := Ground.phase }, { on := 2, ground := Ground.phase }, { on := 3, ground := Ground.phase }, { on := 4, ground := Ground.phase }, { on := 5, ground := Ground.phase }, { on := 6, ground := Ground.phase }, { on := 7, ground := Ground.phase }, { on := 8, ground := Ground.phase }, { on := 9, ground := Ground.phase }, { on := 10, ground := Ground.textOnly Departure.lateStores }, { on := 11, ground := Ground.phase }, { on := 12, ground := Ground.phase }], guard := none } : Oper)) (v := ?_) rfl (by kernel_rfl) (by kernel_rfl) (by kernel_rfl) (fun _ _ _ h => h) (Or.inl ⟨by rfl, ?_⟩) (by assumption) ?_
      rotate_left 1
      · intro v hSw
        (try go_simp)
        (try with_reducible rfl)
      (try simp only [Act.put, List.setIfInBounds_toArray, List.set_cons_zero, List.set_cons_succ])
      refine wpAnyH_take (i := 14) (oi := ({ dst := some 10, op := Op.assign (Operand.tmp 59), type := 22, pos := "law.go:50", after := #[{ on := 10, ground := Ground.data }, { on := 13, ground := Ground.chain }, { on := 0, ground := Ground.phase }, { on := 1, ground := Ground.phase }, { on := 2, ground := Ground.phase }, { on := 3, ground := Ground.phase }, { on := 4, ground := Ground.phase }, { on := 5, ground := Ground.phase }, { on := 6, ground := Ground.phase }, { on := 7, ground := Ground.phase }, { on := 8, ground := Ground.phase }, { on := 9, ground := Ground.phase }, { on := 10, ground := Ground.phase }, { on := 11, ground := Ground.phase }, { on := 12, ground := Ground.phase }, { on := 13, ground := Ground.phase }], guard := none } : Oper)) (v := ?_) rfl (by kernel_rfl) (by kernel_rfl) (by kernel_rfl) (fun _ _ _ h => h) (Or.inl ⟨by rfl, ?_⟩) (by assumption) ?_
      rotate_left 1
      · intro v hSw
        (try go_simp)
        (try with_reducible rfl)
      (try simp only [Act.put, List.setIfInBounds_toArray, List.set_cons_zero, List.set_cons_succ])
      refine wpAnyH_done (by kernel_rfl) ?_ _
      refine NoPanic.normal ?_
      have hrP := (hbQ.block _ HlP.out).trans HrP.out
      replace hbQ := bt HbP.out HbP.out.size hbQ
      clear hr2 hb2 hg2 f0 f1 f2 f3 hb1 hc hHeld
      go_wp2_with fail
      refine wp_region_noPanic ?_
      refine wp_region_held_drew (S := R6 w gP gQ mx my) (by kernel_rfl) (R6.mk hbQ.drew hrP hrQ) (fun hHeld => ?_)
      generalize WQ.drew = X0 at hHeld ⊢
      refine wpAnyH_take (i := 0) (oi := ({ dst := some 60, op := Op.load 32 (Operand.tmp 5), type := 32, pos := "law.go:51", after := #[], guard := none } : Oper)) (v := ?_) rfl (by kernel_rfl) (by kernel_rfl) (by kernel_rfl) (fun _ _ _ h => h) (Or.inl ⟨by rfl, ?_⟩) (by assumption) ?_
      rotate_left 1
      · intro v hSw
        have b0 := hSw.bel
        obtain ⟨f0, f1, -, -⟩ := meet_facts hSw.r1
        obtain ⟨k0, k1, -, -⟩ := meet_facts hSw.r2
        have s0 := (b0.cell HhA.out).trans C0.out
        have s1 := (b0.cell (show (⟨ad.block, ad.off + 1, none⟩ : Addr).block < _ from HhA.out)).trans C1.out
        have s2 := (b0.cell HhB.out).trans C2.out
        have s3 := (b0.cell (show (⟨ad2.block, ad2.off + 1, none⟩ : Addr).block < _ from HhB.out)).trans C3.out
        (try go_simp)
        (try with_reducible rfl)
      (try simp only [Act.put, List.setIfInBounds_toArray, List.set_cons_zero, List.set_cons_succ])
      refine wpAnyH_take (i := 1) (oi := ({ dst := some 61, op := Op.load 32 (Operand.tmp 8), type := 32, pos := "law.go:51", after := #[], guard := none } : Oper)) (v := ?_) rfl (by kernel_rfl) (by kernel_rfl) (by kernel_rfl) (fun _ _ _ h => h) (Or.inl ⟨by rfl, ?_⟩) (by assumption) ?_
      rotate_left 1
      · intro v hSw
        have b0 := hSw.bel
        obtain ⟨f0, f1, -, -⟩ := meet_facts hSw.r1
        obtain ⟨k0, k1, -, -⟩ := meet_facts hSw.r2
        have s0 := (b0.cell HhA.out).trans C0.out
        have s1 := (b0.cell (show (⟨ad.block, ad.off + 1, none⟩ : Addr).block < _ from HhA.out)).trans C1.out
        have s2 := (b0.cell HhB.out).trans C2.out
        have s3 := (b0.cell (show (⟨ad2.block, ad2.off + 1, none⟩ : Addr).block < _ from HhB.out)).trans C3.out
        (try go_simp)
        (try with_reducible rfl)
      (try simp only [Act.put, List.setIfInBounds_toArray, List.set_cons_zero, List.set_cons_succ])
      refine wpAnyH_take (i := 2) (oi := ({ dst := some 62, op := Op.binOp BinOp.neq 32 (Operand.tmp 60) (Operand.tmp 61) 32, type := 4, pos := "law.go:51", after := #[{ on := 0, ground := Ground.data }, { on := 1, ground := Ground.data }], guard := none } : Oper)) (v := ?_) rfl (by kernel_rfl) (by kernel_rfl) (by kernel_rfl) (fun _ _ _ h => h) (Or.inl ⟨by rfl, ?_⟩) (by assumption) ?_
      rotate_left 1
      · intro v hSw
        have b0 := hSw.bel
        obtain ⟨f0, f1, -, -⟩ := meet_facts hSw.r1
        obtain ⟨k0, k1, -, -⟩ := meet_facts hSw.r2
        have s0 := (b0.cell HhA.out).trans C0.out
        have s1 := (b0.cell (show (⟨ad.block, ad.off + 1, none⟩ : Addr).block < _ from HhA.out)).trans C1.out
        have s2 := (b0.cell HhB.out).trans C2.out
        have s3 := (b0.cell (show (⟨ad2.block, ad2.off + 1, none⟩ : Addr).block < _ from HhB.out)).trans C3.out
        (try go_simp)
        (try with_reducible rfl)
      (try simp only [Act.put, List.setIfInBounds_toArray, List.set_cons_zero, List.set_cons_succ])
      refine wpAnyH_take (i := 3) (oi := ({ dst := some 63, op := Op.move (Operand.tmp 62), type := 4, pos := "law.go:51", after := #[{ on := 2, ground := Ground.data }], guard := none } : Oper)) (v := ?_) rfl (by kernel_rfl) (by kernel_rfl) (by kernel_rfl) (fun _ _ _ h => h) (Or.inl ⟨by rfl, ?_⟩) (by assumption) ?_
      rotate_left 1
      · intro v hSw
        have b0 := hSw.bel
        obtain ⟨f0, f1, -, -⟩ := meet_facts hSw.r1
        obtain ⟨k0, k1, -, -⟩ := meet_facts hSw.r2
        have s0 := (b0.cell HhA.out).trans C0.out
        have s1 := (b0.cell (show (⟨ad.block, ad.off + 1, none⟩ : Addr).block < _ from HhA.out)).trans C1.out
        have s2 := (b0.cell HhB.out).trans C2.out
        have s3 := (b0.cell (show (⟨ad2.block, ad2.off + 1, none⟩ : Addr).block < _ from HhB.out)).trans C3.out
        (try go_simp)
        (try with_reducible rfl)
      (try simp only [Act.put, List.setIfInBounds_toArray, List.set_cons_zero, List.set_cons_succ])
      refine wpAnyH_take (i := 4) (oi := ({ dst := some 64, op := Op.move (Operand.tmp 6), type := 4, pos := "law.go:51", after := #[{ on := 3, ground := Ground.guard }], guard := some (3, false) } : Oper)) (v := ?_) rfl (by kernel_rfl) (by kernel_rfl) (by kernel_rfl) (fun _ _ _ h => h) (Or.inl ⟨by rfl, ?_⟩) (by assumption) ?_
      rotate_left 1
      · intro v hSw
        have b0 := hSw.bel
        obtain ⟨f0, f1, -, -⟩ := meet_facts hSw.r1
        obtain ⟨k0, k1, -, -⟩ := meet_facts hSw.r2
        have s0 := (b0.cell HhA.out).trans C0.out
        have s1 := (b0.cell (show (⟨ad.block, ad.off + 1, none⟩ : Addr).block < _ from HhA.out)).trans C1.out
        have s2 := (b0.cell HhB.out).trans C2.out
        have s3 := (b0.cell (show (⟨ad2.block, ad2.off + 1, none⟩ : Addr).block < _ from HhB.out)).trans C3.out
        (try go_simp)
        (try with_reducible rfl)
      (try simp only [Act.put, List.setIfInBounds_toArray, List.set_cons_zero, List.set_cons_succ])
      refine wpAnyH_take (i := 5) (oi := ({ dst := some 65, op := Op.move (Operand.tmp 9), type := 4, pos := "law.go:51", after := #[{ on := 3, ground := Ground.guard }], guard := some (3, false) } : Oper)) (v := ?_) rfl (by kernel_rfl) (by kernel_rfl) (by kernel_rfl) (fun _ _ _ h => h) (Or.inl ⟨by rfl, ?_⟩) (by assumption) ?_
      rotate_left 1
      · intro v hSw
        have b0 := hSw.bel
        obtain ⟨f0, f1, -, -⟩ := meet_facts hSw.r1
        obtain ⟨k0, k1, -, -⟩ := meet_facts hSw.r2
        have s0 := (b0.cell HhA.out).trans C0.out
        have s1 := (b0.cell (show (⟨ad.block, ad.off + 1, none⟩ : Addr).block < _ from HhA.out)).trans C1.out
        have s2 := (b0.cell HhB.out).trans C2.out
        have s3 := (b0.cell (show (⟨ad2.block, ad2.off + 1, none⟩ : Addr).block < _ from HhB.out)).trans C3.out
        (try go_simp)
        (try with_reducible rfl)
      (try simp only [Act.put, List.setIfInBounds_toArray, List.set_cons_zero, List.set_cons_succ])
      refine wpAnyH_take (i := 6) (oi := ({ dst := some 66, op := Op.binOp BinOp.neq 4 (Operand.tmp 64) (Operand.tmp 65) 4, type := 4, pos := "law.go:51", after := #[{ on := 4, ground := Ground.data }, { on := 5, ground := Ground.data }, { on := 3, ground := Ground.guard }], guard := some (3, false) } : Oper)) (v := ?_) rfl (by kernel_rfl) (by kernel_rfl) (by kernel_rfl) (fun _ _ _ h => h) (Or.inl ⟨by rfl, ?_⟩) (by assumption) ?_
      rotate_left 1
      · intro v hSw
        have b0 := hSw.bel
        obtain ⟨f0, f1, -, -⟩ := meet_facts hSw.r1
        obtain ⟨k0, k1, -, -⟩ := meet_facts hSw.r2
        have s0 := (b0.cell HhA.out).trans C0.out
        have s1 := (b0.cell (show (⟨ad.block, ad.off + 1, none⟩ : Addr).block < _ from HhA.out)).trans C1.out
        have s2 := (b0.cell HhB.out).trans C2.out
        have s3 := (b0.cell (show (⟨ad2.block, ad2.off + 1, none⟩ : Addr).block < _ from HhB.out)).trans C3.out
        (try go_simp)
        (try with_reducible rfl)
      (try simp only [Act.put, List.setIfInBounds_toArray, List.set_cons_zero, List.set_cons_succ])
      refine wpAnyH_take (i := 7) (oi := ({ dst := some 67, op := Op.pick (Operand.tmp 63) (Operand.const (Value.bool true)) (Operand.tmp 66), type := 4, pos := "law.go:51", after := #[{ on := 3, ground := Ground.data }, { on := 6, ground := Ground.data }], guard := none } : Oper)) (v := ?_) rfl (by kernel_rfl) (by kernel_rfl) (by kernel_rfl) (fun _ _ _ h => h) (Or.inl ⟨by rfl, ?_⟩) (by assumption) ?_
      rotate_left 1
      · intro v hSw
        have b0 := hSw.bel
        obtain ⟨f0, f1, -, -⟩ := meet_facts hSw.r1
        obtain ⟨k0, k1, -, -⟩ := meet_facts hSw.r2
        have s0 := (b0.cell HhA.out).trans C0.out
        have s1 := (b0.cell (show (⟨ad.block, ad.off + 1, none⟩ : Addr).block < _ from HhA.out)).trans C1.out
        have s2 := (b0.cell HhB.out).trans C2.out
        have s3 := (b0.cell (show (⟨ad2.block, ad2.off + 1, none⟩ : Addr).block < _ from HhB.out)).trans C3.out
        (try go_simp)
        (try with_reducible rfl)
      (try simp only [Act.put, List.setIfInBounds_toArray, List.set_cons_zero, List.set_cons_succ])
      refine wpAnyH_take (i := 8) (oi := ({ dst := some 68, op := Op.move (Operand.tmp 67), type := 4, pos := "law.go:51", after := #[{ on := 7, ground := Ground.data }, { on := 3, ground := Ground.chain }], guard := none } : Oper)) (v := ?_) rfl (by kernel_rfl) (by kernel_rfl) (by kernel_rfl) (fun _ _ _ h => h) (Or.inl ⟨by rfl, ?_⟩) (by assumption) ?_
      rotate_left 1
      · intro v hSw
        have b0 := hSw.bel
        obtain ⟨f0, f1, -, -⟩ := meet_facts hSw.r1
        obtain ⟨k0, k1, -, -⟩ := meet_facts hSw.r2
        have s0 := (b0.cell HhA.out).trans C0.out
        have s1 := (b0.cell (show (⟨ad.block, ad.off + 1, none⟩ : Addr).block < _ from HhA.out)).trans C1.out
        have s2 := (b0.cell HhB.out).trans C2.out
        have s3 := (b0.cell (show (⟨ad2.block, ad2.off + 1, none⟩ : Addr).block < _ from HhB.out)).trans C3.out
        (try go_simp)
        (try with_reducible rfl)
      (try simp only [Act.put, List.setIfInBounds_toArray, List.set_cons_zero, List.set_cons_succ])
      refine wpAnyH_take (i := 9) (oi := ({ dst := some 69, op := Op.move (Operand.tmp 7), type := 22, pos := "law.go:51", after := #[{ on := 8, ground := Ground.guard }], guard := some (8, false) } : Oper)) (v := ?_) rfl (by kernel_rfl) (by kernel_rfl) (by kernel_rfl) (fun _ _ _ h => h) (Or.inl ⟨by rfl, ?_⟩) (by assumption) ?_
      rotate_left 1
      · intro v hSw
        have b0 := hSw.bel
        obtain ⟨f0, f1, -, -⟩ := meet_facts hSw.r1
        obtain ⟨k0, k1, -, -⟩ := meet_facts hSw.r2
        have s0 := (b0.cell HhA.out).trans C0.out
        have s1 := (b0.cell (show (⟨ad.block, ad.off + 1, none⟩ : Addr).block < _ from HhA.out)).trans C1.out
        have s2 := (b0.cell HhB.out).trans C2.out
        have s3 := (b0.cell (show (⟨ad2.block, ad2.off + 1, none⟩ : Addr).block < _ from HhB.out)).trans C3.out
        (try go_simp)
        (try with_reducible rfl)
      (try simp only [Act.put, List.setIfInBounds_toArray, List.set_cons_zero, List.set_cons_succ])
      refine wpAnyH_take (i := 10) (oi := ({ dst := some 70, op := Op.move (Operand.tmp 10), type := 22, pos := "law.go:51", after := #[{ on := 8, ground := Ground.guard }], guard := some (8, false) } : Oper)) (v := ?_) rfl (by kernel_rfl) (by kernel_rfl) (by kernel_rfl) (fun _ _ _ h => h) (Or.inl ⟨by rfl, ?_⟩) (by assumption) ?_
      rotate_left 1
      · intro v hSw
        have b0 := hSw.bel
        obtain ⟨f0, f1, -, -⟩ := meet_facts hSw.r1
        obtain ⟨k0, k1, -, -⟩ := meet_facts hSw.r2
        have s0 := (b0.cell HhA.out).trans C0.out
        have s1 := (b0.cell (show (⟨ad.block, ad.off + 1, none⟩ : Addr).block < _ from HhA.out)).trans C1.out
        have s2 := (b0.cell HhB.out).trans C2.out
        have s3 := (b0.cell (show (⟨ad2.block, ad2.off + 1, none⟩ : Addr).block < _ from HhB.out)).trans C3.out
        (try go_simp)
        (try with_reducible rfl)
      (try simp only [Act.put, List.setIfInBounds_toArray, List.set_cons_zero, List.set_cons_succ])
      refine wpAnyH_take (i := 11) (oi := ({ dst := some 71, op := Op.binOp BinOp.neq 22 (Operand.tmp 69) (Operand.tmp 70) 22, type := 4, pos := "law.go:51", after := #[{ on := 9, ground := Ground.data }, { on := 10, ground := Ground.data }, { on := 8, ground := Ground.guard }], guard := some (8, false) } : Oper)) (v := ?_) rfl (by kernel_rfl) (by kernel_rfl) (by kernel_rfl) (fun _ _ _ h => h) (Or.inl ⟨by rfl, ?_⟩) (by assumption) ?_
      rotate_left 1
      · intro v hSw
        have b0 := hSw.bel
        obtain ⟨f0, f1, -, -⟩ := meet_facts hSw.r1
        obtain ⟨k0, k1, -, -⟩ := meet_facts hSw.r2
        have s0 := (b0.cell HhA.out).trans C0.out
        have s1 := (b0.cell (show (⟨ad.block, ad.off + 1, none⟩ : Addr).block < _ from HhA.out)).trans C1.out
        have s2 := (b0.cell HhB.out).trans C2.out
        have s3 := (b0.cell (show (⟨ad2.block, ad2.off + 1, none⟩ : Addr).block < _ from HhB.out)).trans C3.out
        (try go_simp)
        (try with_reducible rfl)
      (try simp only [Act.put, List.setIfInBounds_toArray, List.set_cons_zero, List.set_cons_succ])
      refine wpAnyH_take (i := 12) (oi := ({ dst := some 72, op := Op.pick (Operand.tmp 68) (Operand.const (Value.bool true)) (Operand.tmp 71), type := 4, pos := "law.go:51", after := #[{ on := 8, ground := Ground.data }, { on := 11, ground := Ground.data }], guard := none } : Oper)) (v := ?_) rfl (by kernel_rfl) (by kernel_rfl) (by kernel_rfl) (fun _ _ _ h => h) (Or.inl ⟨by rfl, ?_⟩) (by assumption) ?_
      rotate_left 1
      · intro v hSw
        have b0 := hSw.bel
        obtain ⟨f0, f1, -, -⟩ := meet_facts hSw.r1
        obtain ⟨k0, k1, -, -⟩ := meet_facts hSw.r2
        have s0 := (b0.cell HhA.out).trans C0.out
        have s1 := (b0.cell (show (⟨ad.block, ad.off + 1, none⟩ : Addr).block < _ from HhA.out)).trans C1.out
        have s2 := (b0.cell HhB.out).trans C2.out
        have s3 := (b0.cell (show (⟨ad2.block, ad2.off + 1, none⟩ : Addr).block < _ from HhB.out)).trans C3.out
        (try go_simp)
        (try with_reducible rfl)
      (try simp only [Act.put, List.setIfInBounds_toArray, List.set_cons_zero, List.set_cons_succ])
      refine wpAnyH_take (i := 13) (oi := ({ dst := some 73, op := Op.move (Operand.tmp 72), type := 4, pos := "law.go:51", after := #[{ on := 12, ground := Ground.data }, { on := 8, ground := Ground.chain }], guard := none } : Oper)) (v := ?_) rfl (by kernel_rfl) (by kernel_rfl) (by kernel_rfl) (fun _ _ _ h => h) (Or.inl ⟨by rfl, ?_⟩) (by assumption) ?_
      rotate_left 1
      · intro v hSw
        have b0 := hSw.bel
        obtain ⟨f0, f1, -, -⟩ := meet_facts hSw.r1
        obtain ⟨k0, k1, -, -⟩ := meet_facts hSw.r2
        have s0 := (b0.cell HhA.out).trans C0.out
        have s1 := (b0.cell (show (⟨ad.block, ad.off + 1, none⟩ : Addr).block < _ from HhA.out)).trans C1.out
        have s2 := (b0.cell HhB.out).trans C2.out
        have s3 := (b0.cell (show (⟨ad2.block, ad2.off + 1, none⟩ : Addr).block < _ from HhB.out)).trans C3.out
        (try go_simp)
        (try with_reducible rfl)
      (try simp only [Act.put, List.setIfInBounds_toArray, List.set_cons_zero, List.set_cons_succ])
      refine wpAnyH_take (i := 14) (oi := ({ dst := some 74, op := Op.move (Operand.tmp 0), type := 29, pos := "law.go:51", after := #[{ on := 13, ground := Ground.guard }], guard := some (13, false) } : Oper)) (v := ?_) rfl (by kernel_rfl) (by kernel_rfl) (by kernel_rfl) (fun _ _ _ h => h) (Or.inl ⟨by rfl, ?_⟩) (by assumption) ?_
      rotate_left 1
      · intro v hSw
        have b0 := hSw.bel
        obtain ⟨f0, f1, -, -⟩ := meet_facts hSw.r1
        obtain ⟨k0, k1, -, -⟩ := meet_facts hSw.r2
        have s0 := (b0.cell HhA.out).trans C0.out
        have s1 := (b0.cell (show (⟨ad.block, ad.off + 1, none⟩ : Addr).block < _ from HhA.out)).trans C1.out
        have s2 := (b0.cell HhB.out).trans C2.out
        have s3 := (b0.cell (show (⟨ad2.block, ad2.off + 1, none⟩ : Addr).block < _ from HhB.out)).trans C3.out
        (try go_simp)
        (try with_reducible rfl)
      (try simp only [Act.put, List.setIfInBounds_toArray, List.set_cons_zero, List.set_cons_succ])
      refine wpAnyH_take (i := 15) (oi := ({ dst := some 75, op := Op.indexAddr 29 (Operand.tmp 74) (Operand.const (Value.int IntKind.i64 0)), type := 0, pos := "law.go:51", after := #[{ on := 14, ground := Ground.data }, { on := 13, ground := Ground.guard }], guard := some (13, false) } : Oper)) (v := ?_) rfl (by kernel_rfl) (by kernel_rfl) (by kernel_rfl) (fun _ _ _ h => h) (Or.inl ⟨by rfl, ?_⟩) (by assumption) ?_
      rotate_left 1
      · intro v hSw
        have b0 := hSw.bel
        obtain ⟨f0, f1, -, -⟩ := meet_facts hSw.r1
        obtain ⟨k0, k1, -, -⟩ := meet_facts hSw.r2
        have s0 := (b0.cell HhA.out).trans C0.out
        have s1 := (b0.cell (show (⟨ad.block, ad.off + 1, none⟩ : Addr).block < _ from HhA.out)).trans C1.out
        have s2 := (b0.cell HhB.out).trans C2.out
        have s3 := (b0.cell (show (⟨ad2.block, ad2.off + 1, none⟩ : Addr).block < _ from HhB.out)).trans C3.out
        (try go_simp)
        (try with_reducible rfl)
      (try simp only [Act.put, List.setIfInBounds_toArray, List.set_cons_zero, List.set_cons_succ])
      refine wpAnyH_take (i := 16) (oi := ({ dst := some 76, op := Op.load 32 (Operand.tmp 75), type := 32, pos := "law.go:51", after := #[{ on := 15, ground := Ground.data }, { on := 13, ground := Ground.guard }], guard := some (13, false) } : Oper)) (v := ?_) rfl (by kernel_rfl) (by kernel_rfl) (by kernel_rfl) (fun _ _ _ h => h) (Or.inl ⟨by rfl, ?_⟩) (by assumption) ?_
      rotate_left 1
      · intro v hSw
        have b0 := hSw.bel
        obtain ⟨f0, f1, -, -⟩ := meet_facts hSw.r1
        obtain ⟨k0, k1, -, -⟩ := meet_facts hSw.r2
        have s0 := (b0.cell HhA.out).trans C0.out
        have s1 := (b0.cell (show (⟨ad.block, ad.off + 1, none⟩ : Addr).block < _ from HhA.out)).trans C1.out
        have s2 := (b0.cell HhB.out).trans C2.out
        have s3 := (b0.cell (show (⟨ad2.block, ad2.off + 1, none⟩ : Addr).block < _ from HhB.out)).trans C3.out
        (try go_simp)
        (try with_reducible rfl)
      (try simp only [Act.put, List.setIfInBounds_toArray, List.set_cons_zero, List.set_cons_succ])
      refine wpAnyH_take (i := 18) (oi := ({ dst := some 78, op := Op.move (Operand.tmp 0), type := 29, pos := "law.go:51", after := #[{ on := 13, ground := Ground.guard }], guard := some (13, false) } : Oper)) (v := ?_) rfl (by kernel_rfl) (by kernel_rfl) (by kernel_rfl) (fun _ _ _ h => h) (Or.inl ⟨by rfl, ?_⟩) (by assumption) ?_
      rotate_left 1
      · intro v hSw
        have b0 := hSw.bel
        obtain ⟨f0, f1, -, -⟩ := meet_facts hSw.r1
        obtain ⟨k0, k1, -, -⟩ := meet_facts hSw.r2
        have s0 := (b0.cell HhA.out).trans C0.out
        have s1 := (b0.cell (show (⟨ad.block, ad.off + 1, none⟩ : Addr).block < _ from HhA.out)).trans C1.out
        have s2 := (b0.cell HhB.out).trans C2.out
        have s3 := (b0.cell (show (⟨ad2.block, ad2.off + 1, none⟩ : Addr).block < _ from HhB.out)).trans C3.out
        (try go_simp)
        (try with_reducible rfl)
      (try simp only [Act.put, List.setIfInBounds_toArray, List.set_cons_zero, List.set_cons_succ])
      refine wpAnyH_take (i := 19) (oi := ({ dst := some 79, op := Op.indexAddr 29 (Operand.tmp 78) (Operand.const (Value.int IntKind.i64 0)), type := 0, pos := "law.go:51", after := #[{ on := 18, ground := Ground.data }, { on := 13, ground := Ground.guard }], guard := some (13, false) } : Oper)) (v := ?_) rfl (by kernel_rfl) (by kernel_rfl) (by kernel_rfl) (fun _ _ _ h => h) (Or.inl ⟨by rfl, ?_⟩) (by assumption) ?_
      rotate_left 1
      · intro v hSw
        have b0 := hSw.bel
        obtain ⟨f0, f1, -, -⟩ := meet_facts hSw.r1
        obtain ⟨k0, k1, -, -⟩ := meet_facts hSw.r2
        have s0 := (b0.cell HhA.out).trans C0.out
        have s1 := (b0.cell (show (⟨ad.block, ad.off + 1, none⟩ : Addr).block < _ from HhA.out)).trans C1.out
        have s2 := (b0.cell HhB.out).trans C2.out
        have s3 := (b0.cell (show (⟨ad2.block, ad2.off + 1, none⟩ : Addr).block < _ from HhB.out)).trans C3.out
        (try go_simp)
        (try with_reducible rfl)
      (try simp only [Act.put, List.setIfInBounds_toArray, List.set_cons_zero, List.set_cons_succ])
      refine wpAnyH_take (i := 20) (oi := ({ dst := some 80, op := Op.load 32 (Operand.tmp 79), type := 32, pos := "law.go:51", after := #[{ on := 19, ground := Ground.data }, { on := 13, ground := Ground.guard }], guard := some (13, false) } : Oper)) (v := ?_) rfl (by kernel_rfl) (by kernel_rfl) (by kernel_rfl) (fun _ _ _ h => h) (Or.inl ⟨by rfl, ?_⟩) (by assumption) ?_
      rotate_left 1
      · intro v hSw
        have b0 := hSw.bel
        obtain ⟨f0, f1, -, -⟩ := meet_facts hSw.r1
        obtain ⟨k0, k1, -, -⟩ := meet_facts hSw.r2
        have s0 := (b0.cell HhA.out).trans C0.out
        have s1 := (b0.cell (show (⟨ad.block, ad.off + 1, none⟩ : Addr).block < _ from HhA.out)).trans C1.out
        have s2 := (b0.cell HhB.out).trans C2.out
        have s3 := (b0.cell (show (⟨ad2.block, ad2.off + 1, none⟩ : Addr).block < _ from HhB.out)).trans C3.out
        (try go_simp)
        (try with_reducible rfl)
      (try simp only [Act.put, List.setIfInBounds_toArray, List.set_cons_zero, List.set_cons_succ])
      refine wpAnyH_ready (rs := [17]) (by kernel_rfl) (by simp) ?_
      refine AllReadyH.cons (o := ({ dst := some 77, op := Op.call { callee := Callee.value (Operand.func 22), args := #[Operand.tmp 76], argTypes := #[32] }, type := 22, pos := "law.go:51", after := #[{ on := 16, ground := Ground.data }, { on := 13, ground := Ground.chain }, { on := 13, ground := Ground.guard }], guard := some (13, false) } : Oper)) rfl (fun K hK => ?_) (AllReadyH.nil)
      go_simp
      refine (K1.out X0).mono ?_
      rintro e X1 ⟨rfl, hc⟩
      have hH1 := hHeld.on hc
      refine hK.out _ _ hH1 (fun _ => ?_)
      clear hK K
      (try simp only [Act.put, List.setIfInBounds_toArray, List.set_cons_zero, List.set_cons_succ])
      refine wpAnyH_ready (rs := [21]) (by kernel_rfl) (by simp) ?_
      refine AllReadyH.cons (o := ({ dst := some 81, op := Op.call { callee := Callee.value (Operand.func 23), args := #[Operand.tmp 80], argTypes := #[32] }, type := 22, pos := "law.go:51", after := #[{ on := 20, ground := Ground.data }, { on := 17, ground := Ground.chain }, { on := 13, ground := Ground.guard }], guard := some (13, false) } : Oper)) rfl (fun K hK => ?_) (AllReadyH.nil)
      go_simp
      refine (K2.out X1).mono ?_
      rintro e W6 ⟨rfl, hc'⟩
      have hH2 := hH1.on hc'
      refine hK.out _ _ hH2 (fun _ => ?_)
      clear hK K
      (try simp only [Act.put, List.setIfInBounds_toArray, List.set_cons_zero, List.set_cons_succ])
      refine wpAnyH_take (i := 22) (oi := ({ dst := some 82, op := Op.binOp BinOp.neq 22 (Operand.tmp 77) (Operand.tmp 81) 22, type := 4, pos := "law.go:51", after := #[{ on := 17, ground := Ground.data }, { on := 21, ground := Ground.data }, { on := 13, ground := Ground.guard }], guard := some (13, false) } : Oper)) (v := ?_) rfl (by kernel_rfl) (by kernel_rfl) (by kernel_rfl) (fun _ _ _ h => h) (Or.inl ⟨by rfl, ?_⟩) (by assumption) ?_
      rotate_left 1
      · intro v hSw
        (try go_simp)
        (try with_reducible rfl)
      (try simp only [Act.put, List.setIfInBounds_toArray, List.set_cons_zero, List.set_cons_succ])
      refine wpAnyH_take (i := 23) (oi := ({ dst := some 83, op := Op.pick (Operand.tmp 73) (Operand.const (Value.bool true)) (Operand.tmp 82), type := 4, pos := "law.go:51", after := #[{ on := 13, ground := Ground.data }, { on := 22, ground := Ground.data }], guard := none } : Oper)) (v := ?_) rfl (by kernel_rfl) (by kernel_rfl) (by kernel_rfl) (fun _ _ _ h => h) (Or.inl ⟨by rfl, ?_⟩) (by assumption) ?_
      rotate_left 1
      · intro v hSw
        (try go_simp)
        (try with_reducible rfl)
      (try simp only [Act.put, List.setIfInBounds_toArray, List.set_cons_zero, List.set_cons_succ])
      refine wpAnyH_done (by kernel_rfl) ?_ _
      refine NoPanic.normal ?_
      have hb0 := hH2.bel
      clear hHeld hH1 hH2 hc hc' hrP hrQ hbQ
      go_wp2_with fail
      refine (U1.out W6 (HA.out.on hb0)).mono ?_
      intro e w1 hp
      obtain ⟨Au, cu, Mu, u, rfl, hsu, hmu, hcu, hnu, hb⟩ := hp.rd G1.out
      have hb1 := bt hb0 hb0.size hb
      clear hb
      have HSu := Lib.hid hsu
      have Hmu := Lib.hid hmu
      have Hcu := Lib.hid hcu
      have Hnu := Lib.hid hnu
      clear hp hsu hmu hcu hnu
      go_wp2_with fail
      refine (U2.out w1 (HA.out.on hb1)).mono ?_
      intro e w2 hp
      obtain ⟨Av, cv, Mv, u', rfl, hsv, hmv, hcv, hnv, hb⟩ := hp.rd G1.out
      have hb2 := bt hb1 hb1.size hb
      have heq := T.same_lists Hcu.out Hnu.out hcv hnv
      have hmm : Mv = Mu := by rw [← hmv, ← Hmu.out, heq]
      rw [← heq] at hsv
      rw [hmm]
      have HSu2 := Lib.hid (HSu.out.on hb)
      have HSv2 := Lib.hid hsv
      clear hp hsv hmv hcv hnv hb hb1 heq hmm HSu
      go_wp2_with fail
      refine (M1.out w2 (HA.out.on hb2) (HB.out.on hb2)).mono ?_
      intro e w3 hp
      obtain ⟨Am, cm, Mm, r, rfl, hsm, hmm, hcm', hnm, hb⟩ := hp.rd G2.out
      have hb3 := bt hb2 hb2.size hb
      have HSu3 := Lib.hid (HSu2.out.on hb)
      have HSv3 := Lib.hid (HSv2.out.on hb)
      have HSm3 := Lib.hid hsm
      have Hmm := Lib.hid hmm
      have Hcm := Lib.hid hcm'
      have Hnm := Lib.hid hnm
      clear hp hsm hmm hcm' hnm hb hb2 HSu2 HSv2
      go_wp2_with fail
      refine (M2.out w3 (HA.out.on hb3) (HB.out.on hb3)).mono ?_
      intro e w4 hp
      obtain ⟨An, cn, Mn, r', rfl, hsn, hmn, hcn, hnn, hb⟩ := hp.rd G2.out
      have hb4 := bt hb3 hb3.size hb
      have heq := T.same_lists Hcm.out Hnm.out hcn hnn
      have hme : Mn = Mm := by rw [← hmn, ← Hmm.out, heq]
      rw [← heq] at hsn
      rw [hme]
      have HSu4 := Lib.hid (HSu3.out.on hb)
      have HSv4 := Lib.hid (HSv3.out.on hb)
      have HSm4 := Lib.hid (HSm3.out.on hb)
      have HSn4 := Lib.hid hsn
      clear hp hsn hmn hcn hnn hb hb3 heq hme HSu3 HSv3 HSm3
      go_wp2_with fail
      refine (T1.out w4 (HA.out.on hb4)).mono ?_
      rintro e w5 ⟨V, he, k1, k2, hb⟩
      unfold T.pr at he
      subst he
      have hb5 := bt hb4 hb4.size hb
      have K1 := Lib.hid k1
      have K2 := Lib.hid k2
      have HSu5 := Lib.hid (HSu4.out.on hb)
      have HSv5 := Lib.hid (HSv4.out.on hb)
      have HSm5 := Lib.hid (HSm4.out.on hb)
      have HSn5 := Lib.hid (HSn4.out.on hb)
      clear k1 k2 hb hb4 HSu4 HSv4 HSm4 HSn4
      go_wp2_with fail
      refine (T2.out w5 (HA.out.on hb5)).mono ?_
      rintro e w6 ⟨V', he, k1, k2, hb⟩
      unfold T.pr at he
      subst he
      have hb6 := bt hb5 hb5.size hb
      have heq := T.same_sums K1.out K2.out k1 k2
      rw [← heq]
      have HSu6 := Lib.hid (HSu5.out.on hb)
      have HSv6 := Lib.hid (HSv5.out.on hb)
      have HSm6 := Lib.hid (HSm5.out.on hb)
      have HSn6 := Lib.hid (HSn5.out.on hb)
      clear k1 k2 hb hb5 heq HSu5 HSv5 HSm5 HSn5
      go_wp2_with fail
      refine (RSame_eq Au Av cu cv Mu u w6 HSu6.out HSv6.out Hmu.out).mono ?_
      rintro e w7 ⟨rfl, hb⟩
      have hb7 := bt hb6 hb6.size hb
      have HSm7 := Lib.hid (HSm6.out.on hb)
      have HSn7 := Lib.hid (HSn6.out.on hb)
      clear hb hb6 HSu6 HSv6 HSm6 HSn6
      go_wp2_with fail
      refine (RSame_eq Am An cm cn Mm r w7 HSm7.out HSn7.out Hmm.out).mono ?_
      rintro e w8 ⟨rfl, hb⟩
      have hb8 := bt hb7 hb7.size hb
      have HW := Lib.hid (awake_any w8 (HT.out.on hb8))
      clear hb hb7 HSm7 HSn7
      go_wp2_with fail
      refine HW.out.mono ?_
      rintro e w9 ⟨rfl, hb⟩
      have hb9 := bt hb8 hb8.size hb
      go_wp2_with fail
      go_ret
      exact ⟨rfl, hb9⟩
theorem spans_far (A A2 : Option Addr) (c c2 m m2 : Nat) (w : World) (hT : Tab w) (hf : T.farV m = true ∨ (T.farV m = false ∧ T.farV m2 = true)) :
    Calls Tryd.prog 4 #[.slice A m c, .slice A2 m2 c2] w fun e w' => e = .returned (.bool true) ∧ Below w.heap.size w w' := by
  have HW := Lib.hid (awake_any w hT)
  have F1 := Lib.hid (fun w => far_any A c m w)
  have F2 := Lib.hid (fun w => far_any A2 c2 m2 w)
  clear hT
  rcases hf with hf | ⟨hf, hf2⟩
  · rw [hf] at F1
    clear hf
    go_enter Tryd.func4, Tryd.ntmps4
    go_wp2_with fail
    refine (F1.out _).mono ?_
    rintro e w' ⟨rfl, rfl⟩
    go_wp2_with fail
    refine HW.out.mono ?_
    rintro e w13 ⟨rfl, hb⟩
    go_wp2_with fail
    go_ret
    exact ⟨rfl, hb⟩
  · rw [hf] at F1
    rw [hf2] at F2
    clear hf hf2
    go_enter Tryd.func4, Tryd.ntmps4
    go_wp2_with fail
    refine (F1.out _).mono ?_
    rintro e w' ⟨rfl, rfl⟩
    go_wp2_with fail
    refine (F2.out _).mono ?_
    rintro e w' ⟨rfl, rfl⟩
    go_wp2_with fail
    refine HW.out.mono ?_
    rintro e w13 ⟨rfl, hb⟩
    go_wp2_with fail
    go_ret
    exact ⟨rfl, hb⟩
theorem TimesSpans_walk (A A2 : Option Addr) (c c2 m m2 : Nat) (a b : List SV) (w : World) (hT : Tab w) (ha : SpIn w w.heap.size A c a) (hb : SpIn w w.heap.size A2 c2 b) (ham : a.length = m) (hbm : b.length = m2) :
    Calls Tryd.prog 4 #[.slice A m c, .slice A2 m2 c2] w fun e w' => e = .returned (.bool true) ∧ Below w.heap.size w w' := by
  have hs : SetC := RSet_of REnds_any
  cases hf : T.farV m
  · cases hf2 : T.farV m2
    · by_cases h0 : m = 0 ∨ m2 = 0
      · exact spans_none hs A A2 c c2 m m2 a b w hT ha hb ham hbm hf hf2 h0
      · exact spans_some hs A A2 c c2 m m2 a b w hT ha hb ham hbm hf hf2 (by omega) (by omega)
    · exact spans_far A A2 c c2 m m2 w hT (Or.inr ⟨hf, hf2⟩)
  · exact spans_far A A2 c c2 m m2 w hT (Or.inl hf)
end Go.Proofs.YtnehllkklmdpfaaDoor
