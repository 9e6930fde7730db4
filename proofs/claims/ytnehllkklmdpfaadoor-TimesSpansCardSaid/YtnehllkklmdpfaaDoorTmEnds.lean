/- The reference's ends: every time at which a span begins or ends, ascending, each once. -/
import Derived.Test.YtnehllkklmdpfaaDoorTmNum
namespace Go.Proofs.YtnehllkklmdpfaaDoor
open Go.RowKit
open T (SV)
set_option linter.unusedSimpArgs false
set_option maxRecDepth 100000
theorem T.ends_mono {N M : List Int} {l : List SV} (h : EndsOf N l) (hs : ∀ z ∈ N, z ∈ M) : EndsOf M l := fun s hl => ⟨hs _ (h s hl).1, hs _ (h s hl).2⟩
theorem T.ends_none (N : List Int) (l : List SV) : EndsOf N (l.take 0) := fun s hl => by simp at hl
theorem T.ends_next {N : List Int} {l : List SV} {k : Nat} {p q : Int} (h : EndsOf N (l.take k)) (hk : k < l.length) (e1 : (l[k]).1 = p) (e2 : (l[k]).2 = q) : EndsOf (N ++ [p] ++ [q]) (l.take (k + 1)) := by
  intro s hs
  rw [List.take_succ_eq_append_getElem hk] at hs
  rcases List.mem_append.1 hs with hs | hs
  · have := h s hs
    simp only [List.mem_append, List.mem_singleton]
    exact ⟨Or.inl (Or.inl this.1), Or.inl (Or.inl this.2)⟩
  · rw [List.mem_singleton.1 hs, e1, e2]
    simp
/-- A number takes its place. -/
theorem T.up_at {U : List Int} {p : Nat} {v : Int} (h : Up U) (h1 : ∀ j (hj : j < U.length), p ≤ j → v < U[j]) (h2 : ∀ j (hj : j < U.length), j + 1 = p → U[j] < v) (hp : p ≤ U.length) : Up (U.take p ++ v :: U.drop p) := by
  refine up_ins h h1 fun j hj hjp => ?_
  have e := h2 (p - 1) (by omega) (by omega)
  by_cases h3 : j = p - 1
  · subst h3; exact e
  · have := List.pairwise_iff_getElem.1 h j (p - 1) hj (by omega) (by omega)
    omega
/-- The state of the first two loops: c: numbers that are there before. -/
structure EndI (w : World) (l0 l : List SV) (c k : Nat) (v : Value) (wr : World) (N : List Int) : Prop where
  own : OwnNum wr w.heap.size v N
  len : N.length = c + 2 * k
  before : T.EndsOf N l0
  ends : T.EndsOf N (l.take k)
  bel : Below w.heap.size w wr
theorem EndI.start {w wr : World} {l0 l : List SV} {c : Nat} {v : Value} {N : List Int} (h1 : OwnNum wr w.heap.size v N) (h2 : N.length = c) (h3 : T.EndsOf N l0) (h4 : Below w.heap.size w wr) : EndI w l0 l c 0 v wr N :=
  ⟨h1, by omega, h3, T.ends_none _ _, h4⟩
theorem EndI.next {w wr wr' : World} {l0 l : List SV} {c k : Nat} {v v' : Value} {N : List Int} {p q : Int} (h : EndI w l0 l c k v wr N) (hk : k < l.length) (e1 : (l[k]).1 = p) (e2 : (l[k]).2 = q) (h1 : OwnNum wr' w.heap.size v' (N ++ [p] ++ [q])) (h4 : Below w.heap.size w wr') : EndI w l0 l c (k + 1) v' wr' (N ++ [p] ++ [q]) :=
  ⟨h1, by have := h.len; simp only [List.length_append, List.length_cons, List.length_nil]; omega, T.ends_mono h.before (fun z hz => by simp [hz]), T.ends_next h.ends hk e1 e2, h4⟩
/-- The state of the third loop. -/
structure UpI (w : World) (N : List Int) (k : Nat) (v : Value) (wr : World) (U : List Int) : Prop where
  own : OwnNum wr w.heap.size v U
  len : U.length ≤ k
  up : T.Up U
  all : ∀ z ∈ N.take k, z ∈ U
  bel : Below w.heap.size w wr
theorem UpI.start (w : World) (N : List Int) : UpI w N 0 (.slice none 0 0) w [] :=
  ⟨OwnNum.nil_ _ _, Nat.le_refl _, List.Pairwise.nil, fun z hz => by simp at hz, Below.refl _ _⟩
theorem UpI.same {w wr : World} {N U : List Int} {k : Nat} {v : Value} {z : Int} (h : UpI w N k v wr U) (hk : k < N.length) (e : N[k] = z) (hz : z ∈ U) : UpI w N (k + 1) v wr U :=
  ⟨h.own, by have := h.len; omega, h.up, fun y hy => by
    rw [List.take_succ_eq_append_getElem hk] at hy
    rcases List.mem_append.1 hy with hy | hy
    · exact h.all y hy
    · rw [List.mem_singleton.1 hy, e]; exact hz, h.bel⟩
theorem UpI.ins {w wr wr' : World} {N U : List Int} {k p : Nat} {v v' : Value} {z : Int} (h : UpI w N k v wr U) (hk : k < N.length) (e : N[k] = z) (hp : p ≤ U.length) (h1 : ∀ j (hj : j < U.length), p ≤ j → z < U[j]) (h2 : ∀ j (hj : j < U.length), j + 1 = p → U[j] < z)
    (ho : OwnNum wr' w.heap.size v' (U.take p ++ z :: U.drop p)) (hb : Below w.heap.size w wr') : UpI w N (k + 1) v' wr' (U.take p ++ z :: U.drop p) :=
  ⟨ho, by have := h.len; simp only [List.length_append, List.length_cons, List.length_take, List.length_drop]; omega, T.up_at h.up h1 h2 hp, fun y hy => by
    rw [List.take_succ_eq_append_getElem hk] at hy
    rw [T.mem_ins]
    rcases List.mem_append.1 hy with hy | hy
    · exact Or.inl (h.all y hy)
    · rw [List.mem_singleton.1 hy, e]; exact Or.inr rfl, hb⟩
theorem UpI.on {w wo wr : World} {N U : List Int} {k : Nat} {v : Value} (h : UpI w N k v wo U) (hb : Below wo.heap.size wo wr) : UpI w N k v wr U :=
  ⟨h.own.kept hb, h.len, h.up, h.all, bt h.bel h.bel.size hb⟩
theorem NumL.none_ {w : World} {B c : Nat} {l : List Int} (h : NumL w B none c l) : l = [] := by
  cases l with
  | nil => rfl
  | cons z l => obtain ⟨ad, e, -⟩ := h.cells 0 (by simp); cases e
theorem NumL.more {w : World} {B C c : Nat} {A : Option Addr} {l : List Int} (h : NumL w B A c l) (hBC : B ≤ C) : NumL w C A c l :=
  ⟨h.le, h.cap, fun k hk => by
    obtain ⟨ad, e, h1, h2⟩ := h.cells k hk
    exact ⟨ad, e, Nat.lt_of_lt_of_le h1 hBC, h2⟩⟩
theorem NumL.cut {w : World} {B c : Nat} {ad : Addr} {l : List Int} (h : NumL w B (some ad) c l) (k : Nat) (hk : k + 1 ≤ l.length) : NumL w B (if c = k + 1 then some ad else some ⟨ad.block, ad.off + (k + 1), none⟩) (c - (k + 1)) (l.drop (k + 1)) := by
  by_cases e : c = k + 1
  · have h0 : l.drop (k + 1) = [] := List.drop_eq_nil_of_le (by have := h.le; omega)
    rw [h0]
    exact ⟨Nat.zero_le _, by have := h.cap; omega, fun j hj => absurd hj (Nat.not_lt_zero _)⟩
  · rw [if_neg e]
    exact h.from_ (k + 1) hk
set_option maxHeartbeats 4000000 in
theorem REnds_any : EndsC := by
  intro A A2 c c2 m m2 a b w hl hl2 hm hm2 h200 h202
  have HL := Lib.hid hl
  have HL2 := Lib.hid hl2
  have Hm := Lib.hid hm
  have Hm2 := Lib.hid hm2
  have hlc := hl.le
  have hcm := hl.cap
  have hlc2 := hl2.le
  have hcm2 := hl2.cap
  unfold maxLen at hcm hcm2
  rw [hm] at hlc
  rw [hm2] at hlc2
  clear hl hl2 hm hm2
  go_enter Tryd.func54, Tryd.ntmps54
  go_wp2_with fail
  go_loopw [5, 6] (fun v i wr => ∃ (k : Nat) (N : List Int), k ≤ m ∧ i = .int .i64 k ∧ Hid (EndI w [] a 0 k v wr N)) (fun _ i _ => m - (intOf i).toNat)
  case atStart => exact ⟨0, [], Nat.zero_le _, rfl, Lib.hid (EndI.start (OwnNum.nil_ _ _) rfl (fun s hs => by cases hs) (Below.refl _ _))⟩
  case round =>
    obtain ⟨k, N, hk, rfl, hE⟩ := hrel
    by_cases hlt : k < m
    · have hkf : k < a.length := by rw [Hm.out]; exact hlt
      obtain ⟨ad, rfl, hlb, c0, c1⟩ := (HL.out.below hE.out.bel).at_ hkf
      obtain ⟨x, hx⟩ : ∃ x, (a[k]'hkf).1 = x := ⟨_, rfl⟩
      obtain ⟨y, hy⟩ : ∃ y, (a[k]'hkf).2 = y := ⟨_, rfl⟩
      rw [hx] at c0
      rw [hy] at c1
      rw [addr_one] at c1
      have E1 := Lib.hid hx
      have E2 := Lib.hid hy
      have hLen : N.length ≤ 900000 := by have := hE.out.len; omega
      have hS0 : RS w (ad.add (k * 2)) ⟨(ad.add (k * 2)).block, (ad.add (k * 2)).off + 1, none⟩ x y wr := RS.of (by rw [addr_block]; exact hlb) (by show (ad.add (k * 2)).block < _; rw [addr_block]; exact hlb) c0 c1 hE.out.bel
      have hOwn0 : OwnNum wr.drew w.heap.size u5 N := hE.out.own.kept (below_dn (Below.refl _ _) 1)
      have hBel0 : Below w.heap.size w wr.drew := hE.out.bel.drew
      clear hx hy c0 c1 hlb
      go_wp2_with fail
      refine wp_region_noPanic ?_
      refine wp_region_held_drew (S := RS w (ad.add (k * 2)) ⟨(ad.add (k * 2)).block, (ad.add (k * 2)).off + 1, none⟩ x y) (by kernel_rfl) hS0.drew (fun hHeld => ?_)
      generalize wr.drew = W0 at hOwn0 hBel0 hHeld ⊢
      refine wpAnyH_take (i := 0) (oi := ({ dst := some 18, op := Op.move (Operand.tmp 5), type := 46, pos := "ref.go:103", after := #[], guard := none } : Oper)) (v := ?_) rfl (by kernel_rfl) (by kernel_rfl) (by kernel_rfl) (fun _ _ _ h => h) (Or.inl ⟨by rfl, ?_⟩) (by assumption) ?_
      rotate_left 1
      · intro w hSw
        have s0 := hSw.c0
        have s1 := hSw.c1
        (try go_simp)
        (try with_reducible rfl)
      (try simp only [Act.put, List.setIfInBounds_toArray, List.set_cons_zero, List.set_cons_succ])
      refine wpAnyH_take (i := 1) (oi := ({ dst := some 19, op := Op.move (Operand.tmp 0), type := 29, pos := "ref.go:103", after := #[], guard := none } : Oper)) (v := ?_) rfl (by kernel_rfl) (by kernel_rfl) (by kernel_rfl) (fun _ _ _ h => h) (Or.inl ⟨by rfl, ?_⟩) (by assumption) ?_
      rotate_left 1
      · intro w hSw
        have s0 := hSw.c0
        have s1 := hSw.c1
        (try go_simp)
        (try with_reducible rfl)
      (try simp only [Act.put, List.setIfInBounds_toArray, List.set_cons_zero, List.set_cons_succ])
      refine wpAnyH_take (i := 2) (oi := ({ dst := some 20, op := Op.move (Operand.tmp 6), type := 3, pos := "ref.go:103", after := #[], guard := none } : Oper)) (v := ?_) rfl (by kernel_rfl) (by kernel_rfl) (by kernel_rfl) (fun _ _ _ h => h) (Or.inl ⟨by rfl, ?_⟩) (by assumption) ?_
      rotate_left 1
      · intro w hSw
        have s0 := hSw.c0
        have s1 := hSw.c1
        (try go_simp)
        (try with_reducible rfl)
      (try simp only [Act.put, List.setIfInBounds_toArray, List.set_cons_zero, List.set_cons_succ])
      refine wpAnyH_take (i := 3) (oi := ({ dst := some 21, op := Op.indexAddr 29 (Operand.tmp 19) (Operand.tmp 20), type := 0, pos := "ref.go:103", after := #[{ on := 1, ground := Ground.data }, { on := 2, ground := Ground.data }], guard := none } : Oper)) (v := ?_) rfl (by kernel_rfl) (by kernel_rfl) (by kernel_rfl) (fun _ _ _ h => h) (Or.inl ⟨by rfl, ?_⟩) (by assumption) ?_
      rotate_left 1
      · intro w hSw
        have s0 := hSw.c0
        have s1 := hSw.c1
        (try go_simp)
        (try with_reducible rfl)
      (try simp only [Act.put, List.setIfInBounds_toArray, List.set_cons_zero, List.set_cons_succ])
      refine wpAnyH_take (i := 4) (oi := ({ dst := some 22, op := Op.fieldAddr 32 (Operand.tmp 21) 0, type := 0, pos := "ref.go:103", after := #[{ on := 3, ground := Ground.data }], guard := none } : Oper)) (v := ?_) rfl (by kernel_rfl) (by kernel_rfl) (by kernel_rfl) (fun _ _ _ h => h) (Or.inl ⟨by rfl, ?_⟩) (by assumption) ?_
      rotate_left 1
      · intro w hSw
        have s0 := hSw.c0
        have s1 := hSw.c1
        (try go_simp)
        (try with_reducible rfl)
      (try simp only [Act.put, List.setIfInBounds_toArray, List.set_cons_zero, List.set_cons_succ])
      refine wpAnyH_take (i := 5) (oi := ({ dst := some 23, op := Op.load 2 (Operand.tmp 22), type := 2, pos := "ref.go:103", after := #[{ on := 4, ground := Ground.data }], guard := none } : Oper)) (v := ?_) rfl (by kernel_rfl) (by kernel_rfl) (by kernel_rfl) (fun _ _ _ h => h) (Or.inl ⟨by rfl, ?_⟩) (by assumption) ?_
      rotate_left 1
      · intro w hSw
        have s0 := hSw.c0
        have s1 := hSw.c1
        (try go_simp)
        (try with_reducible rfl)
      (try simp only [Act.put, List.setIfInBounds_toArray, List.set_cons_zero, List.set_cons_succ])
      refine wpAnyH_take (i := 8) (oi := ({ dst := some 26, op := Op.move (Operand.tmp 0), type := 29, pos := "ref.go:103", after := #[], guard := none } : Oper)) (v := ?_) rfl (by kernel_rfl) (by kernel_rfl) (by kernel_rfl) (fun _ _ _ h => h) (Or.inl ⟨by rfl, ?_⟩) (by assumption) ?_
      rotate_left 1
      · intro w hSw
        have s0 := hSw.c0
        have s1 := hSw.c1
        (try go_simp)
        (try with_reducible rfl)
      (try simp only [Act.put, List.setIfInBounds_toArray, List.set_cons_zero, List.set_cons_succ])
      refine wpAnyH_take (i := 9) (oi := ({ dst := some 27, op := Op.move (Operand.tmp 6), type := 3, pos := "ref.go:103", after := #[], guard := none } : Oper)) (v := ?_) rfl (by kernel_rfl) (by kernel_rfl) (by kernel_rfl) (fun _ _ _ h => h) (Or.inl ⟨by rfl, ?_⟩) (by assumption) ?_
      rotate_left 1
      · intro w hSw
        have s0 := hSw.c0
        have s1 := hSw.c1
        (try go_simp)
        (try with_reducible rfl)
      (try simp only [Act.put, List.setIfInBounds_toArray, List.set_cons_zero, List.set_cons_succ])
      refine wpAnyH_take (i := 10) (oi := ({ dst := some 28, op := Op.indexAddr 29 (Operand.tmp 26) (Operand.tmp 27), type := 0, pos := "ref.go:103", after := #[{ on := 8, ground := Ground.data }, { on := 9, ground := Ground.data }], guard := none } : Oper)) (v := ?_) rfl (by kernel_rfl) (by kernel_rfl) (by kernel_rfl) (fun _ _ _ h => h) (Or.inl ⟨by rfl, ?_⟩) (by assumption) ?_
      rotate_left 1
      · intro w hSw
        have s0 := hSw.c0
        have s1 := hSw.c1
        (try go_simp)
        (try with_reducible rfl)
      (try simp only [Act.put, List.setIfInBounds_toArray, List.set_cons_zero, List.set_cons_succ])
      refine wpAnyH_take (i := 11) (oi := ({ dst := some 29, op := Op.fieldAddr 32 (Operand.tmp 28) 1, type := 0, pos := "ref.go:103", after := #[{ on := 10, ground := Ground.data }], guard := none } : Oper)) (v := ?_) rfl (by kernel_rfl) (by kernel_rfl) (by kernel_rfl) (fun _ _ _ h => h) (Or.inl ⟨by rfl, ?_⟩) (by assumption) ?_
      rotate_left 1
      · intro w hSw
        have s0 := hSw.c0
        have s1 := hSw.c1
        (try go_simp)
        (try with_reducible rfl)
      (try simp only [Act.put, List.setIfInBounds_toArray, List.set_cons_zero, List.set_cons_succ])
      refine wpAnyH_take (i := 12) (oi := ({ dst := some 30, op := Op.load 2 (Operand.tmp 29), type := 2, pos := "ref.go:103", after := #[{ on := 11, ground := Ground.data }], guard := none } : Oper)) (v := ?_) rfl (by kernel_rfl) (by kernel_rfl) (by kernel_rfl) (fun _ _ _ h => h) (Or.inl ⟨by rfl, ?_⟩) (by assumption) ?_
      rotate_left 1
      · intro w hSw
        have s0 := hSw.c0
        have s1 := hSw.c1
        (try go_simp)
        (try with_reducible rfl)
      (try simp only [Act.put, List.setIfInBounds_toArray, List.set_cons_zero, List.set_cons_succ])
      refine wpAnyH_ready (rs := [6, 13]) (by kernel_rfl) (by simp) ?_
      refine AllReadyH.cons (o := ({ dst := some 24, op := Op.buildSlice 46 1 #[(0, Operand.tmp 23)], type := 46, pos := "ref.go:103", after := #[{ on := 5, ground := Ground.data }], guard := none } : Oper)) rfl (fun K hK => ?_) (AllReadyH.cons (o := ({ dst := some 31, op := Op.buildSlice 46 1 #[(0, Operand.tmp 30)], type := 46, pos := "ref.go:103", after := #[{ on := 12, ground := Ground.data }], guard := none } : Oper)) rfl (fun K hK => ?_) (AllReadyH.nil))
      · skip
        go_simp
        obtain ⟨W1, hw1, hb1, hn6, -⟩ := num_made W0 x
        rw [hw1]
        clear hw1
        have hOwn1 := hOwn0.kept hb1
        have hBel1 := bt hBel0 hBel0.size hb1
        refine hK.out _ _ (hHeld.on hBel1) (fun _ => ?_)
        clear hK K
        (try simp only [Act.put, List.setIfInBounds_toArray, List.set_cons_zero, List.set_cons_succ])
        refine wpAnyH_ready (rs := [7, 13]) (by kernel_rfl) (by simp) ?_
        refine AllReadyH.cons (o := ({ dst := some 25, op := Op.call { callee := Callee.builtin Builtin.append, args := #[Operand.tmp 18, Operand.tmp 24], argTypes := #[46, 46] }, type := 46, pos := "ref.go:103", after := #[{ on := 0, ground := Ground.data }, { on := 6, ground := Ground.data }], guard := none } : Oper)) rfl (fun K hK => ?_) (AllReadyH.cons (o := ({ dst := some 31, op := Op.buildSlice 46 1 #[(0, Operand.tmp 30)], type := 46, pos := "ref.go:103", after := #[{ on := 12, ground := Ground.data }], guard := none } : Oper)) rfl (fun K hK => ?_) (AllReadyH.nil))
        · skip
          refine wp_num _ _ rfl w.heap.size u5 N rfl hOwn1 _ _ _ 1 [x] rfl rfl hn6 (fun e => by cases e) hBel1.size (by (try simp only [List.length_append, List.length_cons, List.length_nil]); omega) (by omega) ?_
          intro v2 W2 hOwn2 hb2 hgr
          have hBel2 := hBel1.trans hb2
          refine hK.out _ _ (hHeld.on hBel2) (fun _ => ?_)
          clear hK K hgr
          (try simp only [Act.put, List.setIfInBounds_toArray, List.set_cons_zero, List.set_cons_succ])
          refine wpAnyH_ready (rs := [13]) (by kernel_rfl) (by simp) ?_
          refine AllReadyH.cons (o := ({ dst := some 31, op := Op.buildSlice 46 1 #[(0, Operand.tmp 30)], type := 46, pos := "ref.go:103", after := #[{ on := 12, ground := Ground.data }], guard := none } : Oper)) rfl (fun K hK => ?_) (AllReadyH.nil)
          go_simp
          obtain ⟨W3, hw3, hb3, hn13, -⟩ := num_made W2 y
          rw [hw3]
          clear hw3
          have hOwn3 := hOwn2.kept hb3
          have hBel3 := bt hBel2 hBel2.size hb3
          refine hK.out _ _ (hHeld.on hBel3) (fun _ => ?_)
          clear hK K
          (try simp only [Act.put, List.setIfInBounds_toArray, List.set_cons_zero, List.set_cons_succ])
          refine wpAnyH_ready (rs := [14]) (by kernel_rfl) (by simp) ?_
          refine AllReadyH.cons (o := ({ dst := some 32, op := Op.call { callee := Callee.builtin Builtin.append, args := #[Operand.tmp 25, Operand.tmp 31], argTypes := #[46, 46] }, type := 46, pos := "ref.go:103", after := #[{ on := 7, ground := Ground.data }, { on := 13, ground := Ground.data }, { on := 7, ground := Ground.chain }], guard := none } : Oper)) rfl (fun K hK => ?_) (AllReadyH.nil)
          refine wp_num _ _ rfl w.heap.size v2 (N ++ [x]) rfl hOwn3 _ _ _ 1 [y] rfl rfl hn13 (fun e => by cases e) hBel3.size (by (try simp only [List.length_append, List.length_cons, List.length_nil]); omega) (by omega) ?_
          intro v4 W4 hOwn4 hb4 hgr
          have hBel4 := hBel3.trans hb4
          refine hK.out _ _ (hHeld.on hBel4) (fun _ => ?_)
          clear hK K hgr
          (try simp only [Act.put, List.setIfInBounds_toArray, List.set_cons_zero, List.set_cons_succ])
          refine wpAnyH_take (i := 15) (oi := ({ dst := some 5, op := Op.assign (Operand.tmp 32), type := 46, pos := "ref.go:103", after := #[{ on := 14, ground := Ground.data }, { on := 14, ground := Ground.chain }, { on := 0, ground := Ground.phase }, { on := 1, ground := Ground.phase }, { on := 2, ground := Ground.phase }, { on := 3, ground := Ground.phase }, { on := 4, ground := Ground.phase }, { on := 5, ground := Ground.phase }, { on := 6, ground := Ground.phase }, { on := 7, ground := Ground.phase }, { on := 8, ground := Ground.phase }, { on := 9, ground := Ground.phase }, { on := 10, ground := Ground.phase }, { on := 11, ground := Ground.phase }, { on := 12, ground := Ground.phase }, { on := 13, ground := Ground.phase }, { on := 14, ground := Ground.phase }], guard := none } : Oper)) (v := ?_) rfl (by kernel_rfl) (by kernel_rfl) (by kernel_rfl) (fun _ _ _ h => h) (Or.inl ⟨by rfl, ?_⟩) (by assumption) ?_
          rotate_left 1
          · intro w hSw
            have s0 := hSw.c0
            have s1 := hSw.c1
            (try go_simp)
            (try with_reducible rfl)
          (try simp only [Act.put, List.setIfInBounds_toArray, List.set_cons_zero, List.set_cons_succ])
          refine wpAnyH_done (by kernel_rfl) ?_ _
          refine NoPanic.normal ?_
          have HW : Hid (EndI w [] a 0 (k + 1) v4 W4 (N ++ [x] ++ [y])) := Lib.hid (hE.out.next hkf E1.out E2.out hOwn4 hBel4)
          clear hHeld hS0 hE hOwn0 hBel0 hOwn1 hBel1 hOwn2 hBel2 hOwn3 hBel3 hOwn4 hBel4
          go_wp2_with fail
          go_roundw
          case rel => exact ⟨k + 1, _, by omega, by go_num, HW⟩
          case measure => simp [intOf]; omega
        · skip
          go_simp
          obtain ⟨W2, hw2, hb2, hn13, -⟩ := num_made W1 y
          rw [hw2]
          clear hw2
          have hOwn2 := hOwn1.kept hb2
          have hBel2 := bt hBel1 hBel1.size hb2
          replace hn6 := hn6.below hb2
          refine hK.out _ _ (hHeld.on hBel2) (fun _ => ?_)
          clear hK K
          (try simp only [Act.put, List.setIfInBounds_toArray, List.set_cons_zero, List.set_cons_succ])
          refine wpAnyH_ready (rs := [7]) (by kernel_rfl) (by simp) ?_
          refine AllReadyH.cons (o := ({ dst := some 25, op := Op.call { callee := Callee.builtin Builtin.append, args := #[Operand.tmp 18, Operand.tmp 24], argTypes := #[46, 46] }, type := 46, pos := "ref.go:103", after := #[{ on := 0, ground := Ground.data }, { on := 6, ground := Ground.data }], guard := none } : Oper)) rfl (fun K hK => ?_) (AllReadyH.nil)
          refine wp_num _ _ rfl w.heap.size u5 N rfl hOwn2 _ _ _ 1 [x] rfl rfl hn6 (fun e => by cases e) hBel2.size (by (try simp only [List.length_append, List.length_cons, List.length_nil]); omega) (by omega) ?_
          intro v3 W3 hOwn3 hb3 hgr
          have hBel3 := hBel2.trans hb3
          replace hn13 := hn13.grown hgr (fun e => absurd (hOwn1.lt _ e).2 (Nat.lt_irrefl _))
          refine hK.out _ _ (hHeld.on hBel3) (fun _ => ?_)
          clear hK K hgr
          (try simp only [Act.put, List.setIfInBounds_toArray, List.set_cons_zero, List.set_cons_succ])
          refine wpAnyH_ready (rs := [14]) (by kernel_rfl) (by simp) ?_
          refine AllReadyH.cons (o := ({ dst := some 32, op := Op.call { callee := Callee.builtin Builtin.append, args := #[Operand.tmp 25, Operand.tmp 31], argTypes := #[46, 46] }, type := 46, pos := "ref.go:103", after := #[{ on := 7, ground := Ground.data }, { on := 13, ground := Ground.data }, { on := 7, ground := Ground.chain }], guard := none } : Oper)) rfl (fun K hK => ?_) (AllReadyH.nil)
          refine wp_num _ _ rfl w.heap.size v3 (N ++ [x]) rfl hOwn3 _ _ _ 1 [y] rfl rfl hn13 (fun e => by cases e) hBel3.size (by (try simp only [List.length_append, List.length_cons, List.length_nil]); omega) (by omega) ?_
          intro v4 W4 hOwn4 hb4 hgr
          have hBel4 := hBel3.trans hb4
          refine hK.out _ _ (hHeld.on hBel4) (fun _ => ?_)
          clear hK K hgr
          (try simp only [Act.put, List.setIfInBounds_toArray, List.set_cons_zero, List.set_cons_succ])
          refine wpAnyH_take (i := 15) (oi := ({ dst := some 5, op := Op.assign (Operand.tmp 32), type := 46, pos := "ref.go:103", after := #[{ on := 14, ground := Ground.data }, { on := 14, ground := Ground.chain }, { on := 0, ground := Ground.phase }, { on := 1, ground := Ground.phase }, { on := 2, ground := Ground.phase }, { on := 3, ground := Ground.phase }, { on := 4, ground := Ground.phase }, { on := 5, ground := Ground.phase }, { on := 6, ground := Ground.phase }, { on := 7, ground := Ground.phase }, { on := 8, ground := Ground.phase }, { on := 9, ground := Ground.phase }, { on := 10, ground := Ground.phase }, { on := 11, ground := Ground.phase }, { on := 12, ground := Ground.phase }, { on := 13, ground := Ground.phase }, { on := 14, ground := Ground.phase }], guard := none } : Oper)) (v := ?_) rfl (by kernel_rfl) (by kernel_rfl) (by kernel_rfl) (fun _ _ _ h => h) (Or.inl ⟨by rfl, ?_⟩) (by assumption) ?_
          rotate_left 1
          · intro w hSw
            have s0 := hSw.c0
            have s1 := hSw.c1
            (try go_simp)
            (try with_reducible rfl)
          (try simp only [Act.put, List.setIfInBounds_toArray, List.set_cons_zero, List.set_cons_succ])
          refine wpAnyH_done (by kernel_rfl) ?_ _
          refine NoPanic.normal ?_
          have HW : Hid (EndI w [] a 0 (k + 1) v4 W4 (N ++ [x] ++ [y])) := Lib.hid (hE.out.next hkf E1.out E2.out hOwn4 hBel4)
          clear hHeld hS0 hE hOwn0 hBel0 hOwn1 hBel1 hOwn2 hBel2 hOwn3 hBel3 hOwn4 hBel4
          go_wp2_with fail
          go_roundw
          case rel => exact ⟨k + 1, _, by omega, by go_num, HW⟩
          case measure => simp [intOf]; omega
      · skip
        go_simp
        obtain ⟨W1, hw1, hb1, hn13, -⟩ := num_made W0 y
        rw [hw1]
        clear hw1
        have hOwn1 := hOwn0.kept hb1
        have hBel1 := bt hBel0 hBel0.size hb1
        refine hK.out _ _ (hHeld.on hBel1) (fun _ => ?_)
        clear hK K
        (try simp only [Act.put, List.setIfInBounds_toArray, List.set_cons_zero, List.set_cons_succ])
        refine wpAnyH_ready (rs := [6]) (by kernel_rfl) (by simp) ?_
        refine AllReadyH.cons (o := ({ dst := some 24, op := Op.buildSlice 46 1 #[(0, Operand.tmp 23)], type := 46, pos := "ref.go:103", after := #[{ on := 5, ground := Ground.data }], guard := none } : Oper)) rfl (fun K hK => ?_) (AllReadyH.nil)
        go_simp
        obtain ⟨W2, hw2, hb2, hn6, -⟩ := num_made W1 x
        rw [hw2]
        clear hw2
        have hOwn2 := hOwn1.kept hb2
        have hBel2 := bt hBel1 hBel1.size hb2
        replace hn13 := hn13.below hb2
        refine hK.out _ _ (hHeld.on hBel2) (fun _ => ?_)
        clear hK K
        (try simp only [Act.put, List.setIfInBounds_toArray, List.set_cons_zero, List.set_cons_succ])
        refine wpAnyH_ready (rs := [7]) (by kernel_rfl) (by simp) ?_
        refine AllReadyH.cons (o := ({ dst := some 25, op := Op.call { callee := Callee.builtin Builtin.append, args := #[Operand.tmp 18, Operand.tmp 24], argTypes := #[46, 46] }, type := 46, pos := "ref.go:103", after := #[{ on := 0, ground := Ground.data }, { on := 6, ground := Ground.data }], guard := none } : Oper)) rfl (fun K hK => ?_) (AllReadyH.nil)
        refine wp_num _ _ rfl w.heap.size u5 N rfl hOwn2 _ _ _ 1 [x] rfl rfl hn6 (fun e => by cases e) hBel2.size (by (try simp only [List.length_append, List.length_cons, List.length_nil]); omega) (by omega) ?_
        intro v3 W3 hOwn3 hb3 hgr
        have hBel3 := hBel2.trans hb3
        replace hn13 := hn13.grown hgr (fun e => absurd (hOwn0.lt _ e).2 (Nat.lt_irrefl _))
        refine hK.out _ _ (hHeld.on hBel3) (fun _ => ?_)
        clear hK K hgr
        (try simp only [Act.put, List.setIfInBounds_toArray, List.set_cons_zero, List.set_cons_succ])
        refine wpAnyH_ready (rs := [14]) (by kernel_rfl) (by simp) ?_
        refine AllReadyH.cons (o := ({ dst := some 32, op := Op.call { callee := Callee.builtin Builtin.append, args := #[Operand.tmp 25, Operand.tmp 31], argTypes := #[46, 46] }, type := 46, pos := "ref.go:103", after := #[{ on := 7, ground := Ground.data }, { on := 13, ground := Ground.data }, { on := 7, ground := Ground.chain }], guard := none } : Oper)) rfl (fun K hK => ?_) (AllReadyH.nil)
        refine wp_num _ _ rfl w.heap.size v3 (N ++ [x]) rfl hOwn3 _ _ _ 1 [y] rfl rfl hn13 (fun e => by cases e) hBel3.size (by (try simp only [List.length_append, List.length_cons, List.length_nil]); omega) (by omega) ?_
        intro v4 W4 hOwn4 hb4 hgr
        have hBel4 := hBel3.trans hb4
        refine hK.out _ _ (hHeld.on hBel4) (fun _ => ?_)
        clear hK K hgr
        (try simp only [Act.put, List.setIfInBounds_toArray, List.set_cons_zero, List.set_cons_succ])
        refine wpAnyH_take (i := 15) (oi := ({ dst := some 5, op := Op.assign (Operand.tmp 32), type := 46, pos := "ref.go:103", after := #[{ on := 14, ground := Ground.data }, { on := 14, ground := Ground.chain }, { on := 0, ground := Ground.phase }, { on := 1, ground := Ground.phase }, { on := 2, ground := Ground.phase }, { on := 3, ground := Ground.phase }, { on := 4, ground := Ground.phase }, { on := 5, ground := Ground.phase }, { on := 6, ground := Ground.phase }, { on := 7, ground := Ground.phase }, { on := 8, ground := Ground.phase }, { on := 9, ground := Ground.phase }, { on := 10, ground := Ground.phase }, { on := 11, ground := Ground.phase }, { on := 12, ground := Ground.phase }, { on := 13, ground := Ground.phase }, { on := 14, ground := Ground.phase }], guard := none } : Oper)) (v := ?_) rfl (by kernel_rfl) (by kernel_rfl) (by kernel_rfl) (fun _ _ _ h => h) (Or.inl ⟨by rfl, ?_⟩) (by assumption) ?_
        rotate_left 1
        · intro w hSw
          have s0 := hSw.c0
          have s1 := hSw.c1
          (try go_simp)
          (try with_reducible rfl)
        (try simp only [Act.put, List.setIfInBounds_toArray, List.set_cons_zero, List.set_cons_succ])
        refine wpAnyH_done (by kernel_rfl) ?_ _
        refine NoPanic.normal ?_
        have HW : Hid (EndI w [] a 0 (k + 1) v4 W4 (N ++ [x] ++ [y])) := Lib.hid (hE.out.next hkf E1.out E2.out hOwn4 hBel4)
        clear hHeld hS0 hE hOwn0 hBel0 hOwn1 hBel1 hOwn2 hBel2 hOwn3 hBel3 hOwn4 hBel4
        go_wp2_with fail
        go_roundw
        case rel => exact ⟨k + 1, _, by omega, by go_num, HW⟩
        case measure => simp [intOf]; omega
    · have hkm : m = k := by omega
      subst hkm
      obtain ⟨w1, rfl⟩ : ∃ w1, w1 = wr := ⟨_, rfl⟩
      obtain ⟨N1, rfl⟩ : ∃ N1, N1 = N := ⟨_, rfl⟩
      have hE1 := hE
      have hEnds : T.EndsOf N1 a := by have := hE1.out.ends; rwa [List.take_of_length_le (by rw [Hm.out]; exact Nat.le_refl _)] at this
      have HEnds := Lib.hid hEnds
      clear hE hEnds hlt hk
      go_wp2_with fail
      go_loopw [5, 7] (fun v i wr => ∃ (k : Nat) (N : List Int), k ≤ m2 ∧ i = .int .i64 k ∧ Hid (EndI w a b (2 * m) k v wr N)) (fun _ i _ => m2 - (intOf i).toNat)
      case atStart => exact ⟨0, N1, Nat.zero_le _, rfl, Lib.hid (EndI.start hE1.out.own (by have := hE1.out.len; omega) HEnds.out hE1.out.bel)⟩
      case round =>
        obtain ⟨k, N, hk, rfl, hE⟩ := hrel
        by_cases hlt : k < m2
        · have hkf : k < b.length := by rw [Hm2.out]; exact hlt
          obtain ⟨ad, rfl, hlb, c0, c1⟩ := (HL2.out.below hE.out.bel).at_ hkf
          obtain ⟨x, hx⟩ : ∃ x, (b[k]'hkf).1 = x := ⟨_, rfl⟩
          obtain ⟨y, hy⟩ : ∃ y, (b[k]'hkf).2 = y := ⟨_, rfl⟩
          rw [hx] at c0
          rw [hy] at c1
          rw [addr_one] at c1
          have E1 := Lib.hid hx
          have E2 := Lib.hid hy
          have hLen : N.length ≤ 900000 := by have := hE.out.len; omega
          have hS0 : RS w (ad.add (k * 2)) ⟨(ad.add (k * 2)).block, (ad.add (k * 2)).off + 1, none⟩ x y wr := RS.of (by rw [addr_block]; exact hlb) (by show (ad.add (k * 2)).block < _; rw [addr_block]; exact hlb) c0 c1 hE.out.bel
          have hOwn0 : OwnNum wr.drew w.heap.size u5 N := hE.out.own.kept (below_dn (Below.refl _ _) 1)
          have hBel0 : Below w.heap.size w wr.drew := hE.out.bel.drew
          clear hx hy c0 c1 hlb
          go_wp2_with fail
          refine wp_region_noPanic ?_
          refine wp_region_held_drew (S := RS w (ad.add (k * 2)) ⟨(ad.add (k * 2)).block, (ad.add (k * 2)).off + 1, none⟩ x y) (by kernel_rfl) hS0.drew (fun hHeld => ?_)
          generalize wr.drew = W0 at hOwn0 hBel0 hHeld ⊢
          refine wpAnyH_take (i := 0) (oi := ({ dst := some 39, op := Op.move (Operand.tmp 5), type := 46, pos := "ref.go:106", after := #[], guard := none } : Oper)) (v := ?_) rfl (by kernel_rfl) (by kernel_rfl) (by kernel_rfl) (fun _ _ _ h => h) (Or.inl ⟨by rfl, ?_⟩) (by assumption) ?_
          rotate_left 1
          · intro w hSw
            have s0 := hSw.c0
            have s1 := hSw.c1
            (try go_simp)
            (try with_reducible rfl)
          (try simp only [Act.put, List.setIfInBounds_toArray, List.set_cons_zero, List.set_cons_succ])
          refine wpAnyH_take (i := 1) (oi := ({ dst := some 40, op := Op.move (Operand.tmp 1), type := 29, pos := "ref.go:106", after := #[], guard := none } : Oper)) (v := ?_) rfl (by kernel_rfl) (by kernel_rfl) (by kernel_rfl) (fun _ _ _ h => h) (Or.inl ⟨by rfl, ?_⟩) (by assumption) ?_
          rotate_left 1
          · intro w hSw
            have s0 := hSw.c0
            have s1 := hSw.c1
            (try go_simp)
            (try with_reducible rfl)
          (try simp only [Act.put, List.setIfInBounds_toArray, List.set_cons_zero, List.set_cons_succ])
          refine wpAnyH_take (i := 2) (oi := ({ dst := some 41, op := Op.move (Operand.tmp 7), type := 3, pos := "ref.go:106", after := #[], guard := none } : Oper)) (v := ?_) rfl (by kernel_rfl) (by kernel_rfl) (by kernel_rfl) (fun _ _ _ h => h) (Or.inl ⟨by rfl, ?_⟩) (by assumption) ?_
          rotate_left 1
          · intro w hSw
            have s0 := hSw.c0
            have s1 := hSw.c1
            (try go_simp)
            (try with_reducible rfl)
          (try simp only [Act.put, List.setIfInBounds_toArray, List.set_cons_zero, List.set_cons_succ])
          refine wpAnyH_take (i := 3) (oi := ({ dst := some 42, op := Op.indexAddr 29 (Operand.tmp 40) (Operand.tmp 41), type := 0, pos := "ref.go:106", after := #[{ on := 1, ground := Ground.data }, { on := 2, ground := Ground.data }], guard := none } : Oper)) (v := ?_) rfl (by kernel_rfl) (by kernel_rfl) (by kernel_rfl) (fun _ _ _ h => h) (Or.inl ⟨by rfl, ?_⟩) (by assumption) ?_
          rotate_left 1
          · intro w hSw
            have s0 := hSw.c0
            have s1 := hSw.c1
            (try go_simp)
            (try with_reducible rfl)
          (try simp only [Act.put, List.setIfInBounds_toArray, List.set_cons_zero, List.set_cons_succ])
          refine wpAnyH_take (i := 4) (oi := ({ dst := some 43, op := Op.fieldAddr 32 (Operand.tmp 42) 0, type := 0, pos := "ref.go:106", after := #[{ on := 3, ground := Ground.data }], guard := none } : Oper)) (v := ?_) rfl (by kernel_rfl) (by kernel_rfl) (by kernel_rfl) (fun _ _ _ h => h) (Or.inl ⟨by rfl, ?_⟩) (by assumption) ?_
          rotate_left 1
          · intro w hSw
            have s0 := hSw.c0
            have s1 := hSw.c1
            (try go_simp)
            (try with_reducible rfl)
          (try simp only [Act.put, List.setIfInBounds_toArray, List.set_cons_zero, List.set_cons_succ])
          refine wpAnyH_take (i := 5) (oi := ({ dst := some 44, op := Op.load 2 (Operand.tmp 43), type := 2, pos := "ref.go:106", after := #[{ on := 4, ground := Ground.data }], guard := none } : Oper)) (v := ?_) rfl (by kernel_rfl) (by kernel_rfl) (by kernel_rfl) (fun _ _ _ h => h) (Or.inl ⟨by rfl, ?_⟩) (by assumption) ?_
          rotate_left 1
          · intro w hSw
            have s0 := hSw.c0
            have s1 := hSw.c1
            (try go_simp)
            (try with_reducible rfl)
          (try simp only [Act.put, List.setIfInBounds_toArray, List.set_cons_zero, List.set_cons_succ])
          refine wpAnyH_take (i := 8) (oi := ({ dst := some 47, op := Op.move (Operand.tmp 1), type := 29, pos := "ref.go:106", after := #[], guard := none } : Oper)) (v := ?_) rfl (by kernel_rfl) (by kernel_rfl) (by kernel_rfl) (fun _ _ _ h => h) (Or.inl ⟨by rfl, ?_⟩) (by assumption) ?_
          rotate_left 1
          · intro w hSw
            have s0 := hSw.c0
            have s1 := hSw.c1
            (try go_simp)
            (try with_reducible rfl)
          (try simp only [Act.put, List.setIfInBounds_toArray, List.set_cons_zero, List.set_cons_succ])
          refine wpAnyH_take (i := 9) (oi := ({ dst := some 48, op := Op.move (Operand.tmp 7), type := 3, pos := "ref.go:106", after := #[], guard := none } : Oper)) (v := ?_) rfl (by kernel_rfl) (by kernel_rfl) (by kernel_rfl) (fun _ _ _ h => h) (Or.inl ⟨by rfl, ?_⟩) (by assumption) ?_
          rotate_left 1
          · intro w hSw
            have s0 := hSw.c0
            have s1 := hSw.c1
            (try go_simp)
            (try with_reducible rfl)
          (try simp only [Act.put, List.setIfInBounds_toArray, List.set_cons_zero, List.set_cons_succ])
          refine wpAnyH_take (i := 10) (oi := ({ dst := some 49, op := Op.indexAddr 29 (Operand.tmp 47) (Operand.tmp 48), type := 0, pos := "ref.go:106", after := #[{ on := 8, ground := Ground.data }, { on := 9, ground := Ground.data }], guard := none } : Oper)) (v := ?_) rfl (by kernel_rfl) (by kernel_rfl) (by kernel_rfl) (fun _ _ _ h => h) (Or.inl ⟨by rfl, ?_⟩) (by assumption) ?_
          rotate_left 1
          · intro w hSw
            have s0 := hSw.c0
            have s1 := hSw.c1
            (try go_simp)
            (try with_reducible rfl)
          (try simp only [Act.put, List.setIfInBounds_toArray, List.set_cons_zero, List.set_cons_succ])
          refine wpAnyH_take (i := 11) (oi := ({ dst := some 50, op := Op.fieldAddr 32 (Operand.tmp 49) 1, type := 0, pos := "ref.go:106", after := #[{ on := 10, ground := Ground.data }], guard := none } : Oper)) (v := ?_) rfl (by kernel_rfl) (by kernel_rfl) (by kernel_rfl) (fun _ _ _ h => h) (Or.inl ⟨by rfl, ?_⟩) (by assumption) ?_
          rotate_left 1
          · intro w hSw
            have s0 := hSw.c0
            have s1 := hSw.c1
            (try go_simp)
            (try with_reducible rfl)
          (try simp only [Act.put, List.setIfInBounds_toArray, List.set_cons_zero, List.set_cons_succ])
          refine wpAnyH_take (i := 12) (oi := ({ dst := some 51, op := Op.load 2 (Operand.tmp 50), type := 2, pos := "ref.go:106", after := #[{ on := 11, ground := Ground.data }], guard := none } : Oper)) (v := ?_) rfl (by kernel_rfl) (by kernel_rfl) (by kernel_rfl) (fun _ _ _ h => h) (Or.inl ⟨by rfl, ?_⟩) (by assumption) ?_
          rotate_left 1
          · intro w hSw
            have s0 := hSw.c0
            have s1 := hSw.c1
            (try go_simp)
            (try with_reducible rfl)
          (try simp only [Act.put, List.setIfInBounds_toArray, List.set_cons_zero, List.set_cons_succ])
          refine wpAnyH_ready (rs := [6, 13]) (by kernel_rfl) (by simp) ?_
          refine AllReadyH.cons (o := ({ dst := some 45, op := Op.buildSlice 46 1 #[(0, Operand.tmp 44)], type := 46, pos := "ref.go:106", after := #[{ on := 5, ground := Ground.data }], guard := none } : Oper)) rfl (fun K hK => ?_) (AllReadyH.cons (o := ({ dst := some 52, op := Op.buildSlice 46 1 #[(0, Operand.tmp 51)], type := 46, pos := "ref.go:106", after := #[{ on := 12, ground := Ground.data }], guard := none } : Oper)) rfl (fun K hK => ?_) (AllReadyH.nil))
          · skip
            go_simp
            obtain ⟨W1, hw1, hb1, hn6, -⟩ := num_made W0 x
            rw [hw1]
            clear hw1
            have hOwn1 := hOwn0.kept hb1
            have hBel1 := bt hBel0 hBel0.size hb1
            refine hK.out _ _ (hHeld.on hBel1) (fun _ => ?_)
            clear hK K
            (try simp only [Act.put, List.setIfInBounds_toArray, List.set_cons_zero, List.set_cons_succ])
            refine wpAnyH_ready (rs := [7, 13]) (by kernel_rfl) (by simp) ?_
            refine AllReadyH.cons (o := ({ dst := some 46, op := Op.call { callee := Callee.builtin Builtin.append, args := #[Operand.tmp 39, Operand.tmp 45], argTypes := #[46, 46] }, type := 46, pos := "ref.go:106", after := #[{ on := 0, ground := Ground.data }, { on := 6, ground := Ground.data }], guard := none } : Oper)) rfl (fun K hK => ?_) (AllReadyH.cons (o := ({ dst := some 52, op := Op.buildSlice 46 1 #[(0, Operand.tmp 51)], type := 46, pos := "ref.go:106", after := #[{ on := 12, ground := Ground.data }], guard := none } : Oper)) rfl (fun K hK => ?_) (AllReadyH.nil))
            · skip
              refine wp_num _ _ rfl w.heap.size u5 N rfl hOwn1 _ _ _ 1 [x] rfl rfl hn6 (fun e => by cases e) hBel1.size (by (try simp only [List.length_append, List.length_cons, List.length_nil]); omega) (by omega) ?_
              intro v2 W2 hOwn2 hb2 hgr
              have hBel2 := hBel1.trans hb2
              refine hK.out _ _ (hHeld.on hBel2) (fun _ => ?_)
              clear hK K hgr
              (try simp only [Act.put, List.setIfInBounds_toArray, List.set_cons_zero, List.set_cons_succ])
              refine wpAnyH_ready (rs := [13]) (by kernel_rfl) (by simp) ?_
              refine AllReadyH.cons (o := ({ dst := some 52, op := Op.buildSlice 46 1 #[(0, Operand.tmp 51)], type := 46, pos := "ref.go:106", after := #[{ on := 12, ground := Ground.data }], guard := none } : Oper)) rfl (fun K hK => ?_) (AllReadyH.nil)
              go_simp
              obtain ⟨W3, hw3, hb3, hn13, -⟩ := num_made W2 y
              rw [hw3]
              clear hw3
              have hOwn3 := hOwn2.kept hb3
              have hBel3 := bt hBel2 hBel2.size hb3
              refine hK.out _ _ (hHeld.on hBel3) (fun _ => ?_)
              clear hK K
              (try simp only [Act.put, List.setIfInBounds_toArray, List.set_cons_zero, List.set_cons_succ])
              refine wpAnyH_ready (rs := [14]) (by kernel_rfl) (by simp) ?_
              refine AllReadyH.cons (o := ({ dst := some 53, op := Op.call { callee := Callee.builtin Builtin.append, args := #[Operand.tmp 46, Operand.tmp 52], argTypes := #[46, 46] }, type := 46, pos := "ref.go:106", after := #[{ on := 7, ground := Ground.data }, { on := 13, ground := Ground.data }, { on := 7, ground := Ground.chain }], guard := none } : Oper)) rfl (fun K hK => ?_) (AllReadyH.nil)
              refine wp_num _ _ rfl w.heap.size v2 (N ++ [x]) rfl hOwn3 _ _ _ 1 [y] rfl rfl hn13 (fun e => by cases e) hBel3.size (by (try simp only [List.length_append, List.length_cons, List.length_nil]); omega) (by omega) ?_
              intro v4 W4 hOwn4 hb4 hgr
              have hBel4 := hBel3.trans hb4
              refine hK.out _ _ (hHeld.on hBel4) (fun _ => ?_)
              clear hK K hgr
              (try simp only [Act.put, List.setIfInBounds_toArray, List.set_cons_zero, List.set_cons_succ])
              refine wpAnyH_take (i := 15) (oi := ({ dst := some 5, op := Op.assign (Operand.tmp 53), type := 46, pos := "ref.go:106", after := #[{ on := 14, ground := Ground.data }, { on := 14, ground := Ground.chain }, { on := 0, ground := Ground.phase }, { on := 1, ground := Ground.phase }, { on := 2, ground := Ground.phase }, { on := 3, ground := Ground.phase }, { on := 4, ground := Ground.phase }, { on := 5, ground := Ground.phase }, { on := 6, ground := Ground.phase }, { on := 7, ground := Ground.phase }, { on := 8, ground := Ground.phase }, { on := 9, ground := Ground.phase }, { on := 10, ground := Ground.phase }, { on := 11, ground := Ground.phase }, { on := 12, ground := Ground.phase }, { on := 13, ground := Ground.phase }, { on := 14, ground := Ground.phase }], guard := none } : Oper)) (v := ?_) rfl (by kernel_rfl) (by kernel_rfl) (by kernel_rfl) (fun _ _ _ h => h) (Or.inl ⟨by rfl, ?_⟩) (by assumption) ?_
              rotate_left 1
              · intro w hSw
                have s0 := hSw.c0
                have s1 := hSw.c1
                (try go_simp)
                (try with_reducible rfl)
              (try simp only [Act.put, List.setIfInBounds_toArray, List.set_cons_zero, List.set_cons_succ])
              refine wpAnyH_done (by kernel_rfl) ?_ _
              refine NoPanic.normal ?_
              have HW : Hid (EndI w a b (2 * m) (k + 1) v4 W4 (N ++ [x] ++ [y])) := Lib.hid (hE.out.next hkf E1.out E2.out hOwn4 hBel4)
              clear hHeld hS0 hE hOwn0 hBel0 hOwn1 hBel1 hOwn2 hBel2 hOwn3 hBel3 hOwn4 hBel4
              go_wp2_with fail
              go_roundw
              case rel => exact ⟨k + 1, _, by omega, by go_num, HW⟩
              case measure => simp [intOf]; omega
            · skip
              go_simp
              obtain ⟨W2, hw2, hb2, hn13, -⟩ := num_made W1 y
              rw [hw2]
              clear hw2
              have hOwn2 := hOwn1.kept hb2
              have hBel2 := bt hBel1 hBel1.size hb2
              replace hn6 := hn6.below hb2
              refine hK.out _ _ (hHeld.on hBel2) (fun _ => ?_)
              clear hK K
              (try simp only [Act.put, List.setIfInBounds_toArray, List.set_cons_zero, List.set_cons_succ])
              refine wpAnyH_ready (rs := [7]) (by kernel_rfl) (by simp) ?_
              refine AllReadyH.cons (o := ({ dst := some 46, op := Op.call { callee := Callee.builtin Builtin.append, args := #[Operand.tmp 39, Operand.tmp 45], argTypes := #[46, 46] }, type := 46, pos := "ref.go:106", after := #[{ on := 0, ground := Ground.data }, { on := 6, ground := Ground.data }], guard := none } : Oper)) rfl (fun K hK => ?_) (AllReadyH.nil)
              refine wp_num _ _ rfl w.heap.size u5 N rfl hOwn2 _ _ _ 1 [x] rfl rfl hn6 (fun e => by cases e) hBel2.size (by (try simp only [List.length_append, List.length_cons, List.length_nil]); omega) (by omega) ?_
              intro v3 W3 hOwn3 hb3 hgr
              have hBel3 := hBel2.trans hb3
              replace hn13 := hn13.grown hgr (fun e => absurd (hOwn1.lt _ e).2 (Nat.lt_irrefl _))
              refine hK.out _ _ (hHeld.on hBel3) (fun _ => ?_)
              clear hK K hgr
              (try simp only [Act.put, List.setIfInBounds_toArray, List.set_cons_zero, List.set_cons_succ])
              refine wpAnyH_ready (rs := [14]) (by kernel_rfl) (by simp) ?_
              refine AllReadyH.cons (o := ({ dst := some 53, op := Op.call { callee := Callee.builtin Builtin.append, args := #[Operand.tmp 46, Operand.tmp 52], argTypes := #[46, 46] }, type := 46, pos := "ref.go:106", after := #[{ on := 7, ground := Ground.data }, { on := 13, ground := Ground.data }, { on := 7, ground := Ground.chain }], guard := none } : Oper)) rfl (fun K hK => ?_) (AllReadyH.nil)
              refine wp_num _ _ rfl w.heap.size v3 (N ++ [x]) rfl hOwn3 _ _ _ 1 [y] rfl rfl hn13 (fun e => by cases e) hBel3.size (by (try simp only [List.length_append, List.length_cons, List.length_nil]); omega) (by omega) ?_
              intro v4 W4 hOwn4 hb4 hgr
              have hBel4 := hBel3.trans hb4
              refine hK.out _ _ (hHeld.on hBel4) (fun _ => ?_)
              clear hK K hgr
              (try simp only [Act.put, List.setIfInBounds_toArray, List.set_cons_zero, List.set_cons_succ])
              refine wpAnyH_take (i := 15) (oi := ({ dst := some 5, op := Op.assign (Operand.tmp 53), type := 46, pos := "ref.go:106", after := #[{ on := 14, ground := Ground.data }, { on := 14, ground := Ground.chain }, { on := 0, ground := Ground.phase }, { on := 1, ground := Ground.phase }, { on := 2, ground := Ground.phase }, { on := 3, ground := Ground.phase }, { on := 4, ground := Ground.phase }, { on := 5, ground := Ground.phase }, { on := 6, ground := Ground.phase }, { on := 7, ground := Ground.phase }, { on := 8, ground := Ground.phase }, { on := 9, ground := Ground.phase }, { on := 10, ground := Ground.phase }, { on := 11, ground := Ground.phase }, { on := 12, ground := Ground.phase }, { on := 13, ground := Ground.phase }, { on := 14, ground := Ground.phase }], guard := none } : Oper)) (v := ?_) rfl (by kernel_rfl) (by kernel_rfl) (by kernel_rfl) (fun _ _ _ h => h) (Or.inl ⟨by rfl, ?_⟩) (by assumption) ?_
              rotate_left 1
              · intro w hSw
                have s0 := hSw.c0
                have s1 := hSw.c1
                (try go_simp)
                (try with_reducible rfl)
              (try simp only [Act.put, List.setIfInBounds_toArray, List.set_cons_zero, List.set_cons_succ])
              refine wpAnyH_done (by kernel_rfl) ?_ _
              refine NoPanic.normal ?_
              have HW : Hid (EndI w a b (2 * m) (k + 1) v4 W4 (N ++ [x] ++ [y])) := Lib.hid (hE.out.next hkf E1.out E2.out hOwn4 hBel4)
              clear hHeld hS0 hE hOwn0 hBel0 hOwn1 hBel1 hOwn2 hBel2 hOwn3 hBel3 hOwn4 hBel4
              go_wp2_with fail
              go_roundw
              case rel => exact ⟨k + 1, _, by omega, by go_num, HW⟩
              case measure => simp [intOf]; omega
          · skip
            go_simp
            obtain ⟨W1, hw1, hb1, hn13, -⟩ := num_made W0 y
            rw [hw1]
            clear hw1
            have hOwn1 := hOwn0.kept hb1
            have hBel1 := bt hBel0 hBel0.size hb1
            refine hK.out _ _ (hHeld.on hBel1) (fun _ => ?_)
            clear hK K
            (try simp only [Act.put, List.setIfInBounds_toArray, List.set_cons_zero, List.set_cons_succ])
            refine wpAnyH_ready (rs := [6]) (by kernel_rfl) (by simp) ?_
            refine AllReadyH.cons (o := ({ dst := some 45, op := Op.buildSlice 46 1 #[(0, Operand.tmp 44)], type := 46, pos := "ref.go:106", after := #[{ on := 5, ground := Ground.data }], guard := none } : Oper)) rfl (fun K hK => ?_) (AllReadyH.nil)
            go_simp
            obtain ⟨W2, hw2, hb2, hn6, -⟩ := num_made W1 x
            rw [hw2]
            clear hw2
            have hOwn2 := hOwn1.kept hb2
            have hBel2 := bt hBel1 hBel1.size hb2
            replace hn13 := hn13.below hb2
            refine hK.out _ _ (hHeld.on hBel2) (fun _ => ?_)
            clear hK K
            (try simp only [Act.put, List.setIfInBounds_toArray, List.set_cons_zero, List.set_cons_succ])
            refine wpAnyH_ready (rs := [7]) (by kernel_rfl) (by simp) ?_
            refine AllReadyH.cons (o := ({ dst := some 46, op := Op.call { callee := Callee.builtin Builtin.append, args := #[Operand.tmp 39, Operand.tmp 45], argTypes := #[46, 46] }, type := 46, pos := "ref.go:106", after := #[{ on := 0, ground := Ground.data }, { on := 6, ground := Ground.data }], guard := none } : Oper)) rfl (fun K hK => ?_) (AllReadyH.nil)
            refine wp_num _ _ rfl w.heap.size u5 N rfl hOwn2 _ _ _ 1 [x] rfl rfl hn6 (fun e => by cases e) hBel2.size (by (try simp only [List.length_append, List.length_cons, List.length_nil]); omega) (by omega) ?_
            intro v3 W3 hOwn3 hb3 hgr
            have hBel3 := hBel2.trans hb3
            replace hn13 := hn13.grown hgr (fun e => absurd (hOwn0.lt _ e).2 (Nat.lt_irrefl _))
            refine hK.out _ _ (hHeld.on hBel3) (fun _ => ?_)
            clear hK K hgr
            (try simp only [Act.put, List.setIfInBounds_toArray, List.set_cons_zero, List.set_cons_succ])
            refine wpAnyH_ready (rs := [14]) (by kernel_rfl) (by simp) ?_
            refine AllReadyH.cons (o := ({ dst := some 53, op := Op.call { callee := Callee.builtin Builtin.append, args := #[Operand.tmp 46, Operand.tmp 52], argTypes := #[46, 46] }, type := 46, pos := "ref.go:106", after := #[{ on := 7, ground := Ground.data }, { on := 13, ground := Ground.data }, { on := 7, ground := Ground.chain }], guard := none } : Oper)) rfl (fun K hK => ?_) (AllReadyH.nil)
            refine wp_num _ _ rfl w.heap.size v3 (N ++ [x]) rfl hOwn3 _ _ _ 1 [y] rfl rfl hn13 (fun e => by cases e) hBel3.size (by (try simp only [List.length_append, List.length_cons, List.length_nil]); omega) (by omega) ?_
            intro v4 W4 hOwn4 hb4 hgr
            have hBel4 := hBel3.trans hb4
            refine hK.out _ _ (hHeld.on hBel4) (fun _ => ?_)
            clear hK K hgr
            (try simp only [Act.put, List.setIfInBounds_toArray, List.set_cons_zero, List.set_cons_succ])
            refine wpAnyH_take (i := 15) (oi := ({ dst := some 5, op := Op.assign (Operand.tmp 53), type := 46, pos := "ref.go:106", after := #[{ on := 14, ground := Ground.data }, { on := 14, ground := Ground.chain }, { on := 0, ground := Ground.phase }, { on := 1, ground := Ground.phase }, { on := 2, ground := Ground.phase }, { on := 3, ground := Ground.phase }, { on := 4, ground := Ground.phase }, { on := 5, ground := Ground.phase }, { on := 6, ground := Ground.phase }, { on := 7, ground := Ground.phase }, { on := 8, ground := Ground.phase }, { on := 9, ground := Ground.phase }, { on := 10, ground := Ground.phase }, { on := 11, ground := Ground.phase }, { on := 12, ground := Ground.phase }, { on := 13, ground := Ground.phase }, { on := 14, ground := Ground.phase }], guard := none } : Oper)) (v := ?_) rfl (by kernel_rfl) (by kernel_rfl) (by kernel_rfl) (fun _ _ _ h => h) (Or.inl ⟨by rfl, ?_⟩) (by assumption) ?_
            rotate_left 1
            · intro w hSw
              have s0 := hSw.c0
              have s1 := hSw.c1
              (try go_simp)
              (try with_reducible rfl)
            (try simp only [Act.put, List.setIfInBounds_toArray, List.set_cons_zero, List.set_cons_succ])
            refine wpAnyH_done (by kernel_rfl) ?_ _
            refine NoPanic.normal ?_
            have HW : Hid (EndI w a b (2 * m) (k + 1) v4 W4 (N ++ [x] ++ [y])) := Lib.hid (hE.out.next hkf E1.out E2.out hOwn4 hBel4)
            clear hHeld hS0 hE hOwn0 hBel0 hOwn1 hBel1 hOwn2 hBel2 hOwn3 hBel3 hOwn4 hBel4
            go_wp2_with fail
            go_roundw
            case rel => exact ⟨k + 1, _, by omega, by go_num, HW⟩
            case measure => simp [intOf]; omega
        · have hkm : m2 = k := by omega
          subst hkm
          obtain ⟨w3, rfl⟩ : ∃ w3, w3 = wr := ⟨_, rfl⟩
          have hEnds2 : T.EndsOf N b := by have := hE.out.ends; rwa [List.take_of_length_le (by rw [Hm2.out]; exact Nat.le_refl _)] at this
          have HEnds1 := Lib.hid hE.out.before
          have HEnds2 := Lib.hid hEnds2
          have HB3 := Lib.hid hE.out.bel
          obtain ⟨A3, c3, he, hn, -⟩ := hE.out.own.reads
          have hnl := hE.out.len
          obtain ⟨n, hn0⟩ : ∃ n, N.length = n := ⟨_, rfl⟩
          rw [hn0] at he hnl
          subst he
          have HN := Lib.hid hn
          have Hn := Lib.hid hn0
          have hle := hn.le
          have hcp := hn.cap
          unfold maxLen at hcp
          rw [hn0] at hle
          have hn8 : n ≤ 800 := by omega
          clear hE hE1 hEnds2 HEnds hlt hk hn hnl hn0 HL HL2 Hm Hm2
          go_wp2_with fail
          go_loopw [8, 9] (fun v i wr => ∃ (k : Nat) (U : List Int), k ≤ n ∧ i = .int .i64 k ∧ Hid (UpI w3 N k v wr U)) (fun _ i _ => n - (intOf i).toNat)
          case atStart => exact ⟨0, [], Nat.zero_le _, rfl, Lib.hid (UpI.start w3 N)⟩
          case round =>
            obtain ⟨k, U, hk, rfl, hU⟩ := hrel
            obtain ⟨A8, c8, he8, hr8, hz8⟩ := hU.out.own.reads
            have hul := hU.out.len
            obtain ⟨q, hq⟩ : ∃ q, U.length = q := ⟨_, rfl⟩
            rw [hq] at he8 hul
            subst he8
            have Hq := Lib.hid hq
            have HU := Lib.hid hr8
            have HZ := Lib.hid hz8
            have hle8 := hr8.le
            have hcp8 := hr8.cap
            unfold maxLen at hcp8
            rw [hq] at hle8
            clear hr8 hq hz8
            by_cases hlt : k < n
            · have hkf : k < N.length := by rw [Hn.out]; exact hlt
              obtain ⟨ad, rfl, hlb, c0⟩ := (HN.out.below hU.out.bel).cells k hkf
              obtain ⟨z, hz⟩ : ∃ z, N[k]'hkf = z := ⟨_, rfl⟩
              rw [hz] at c0
              have Hz := Lib.hid hz
              have hS0 : RS w3 (ad.add k) (ad.add k) z z wr := RS.of (by rw [addr_block]; exact hlb) (by rw [addr_block]; exact hlb) c0 c0 hU.out.bel
              have HS0 := Lib.hid hS0
              have HU0 := Lib.hid hU.out
              clear hz hlb c0 hS0 hU
              obtain ⟨wo, rfl⟩ : ∃ wo, wo = wr := ⟨_, rfl⟩
              go_wp2_with fail
              go_loopw [10] (fun i wr => ∃ p : Nat, p ≤ q ∧ i = .int .i64 p ∧ Hid (∀ j (hj : j < U.length), p ≤ j → z < U[j]) ∧ Hid (Below wo.heap.size wo wr)) (fun i _ => (intOf i).toNat)
              case atStart => exact ⟨q, Nat.le_refl _, rfl, Lib.hid (fun j hj h => absurd hj (by rw [Hq.out]; omega)), Lib.hid (below_dn (Below.refl _ _) 0)⟩
              case round =>
                obtain ⟨p, hp, rfl, hA, hbo⟩ := hrel
                have hU := Lib.hid (HU0.out.on hbo.out)
                have hS0 := HS0.out.on hU.out.bel
                have c0 := hS0.c0
                have HU2 := Lib.hid ((HU.out.below hbo.out).more hbo.out.size)
                rcases Nat.eq_zero_or_pos p with rfl | hp0
                · rcases A8 with _ | ad8
                  · have hq0 : q = 0 := by rw [← Hq.out, HU2.out.none_]; rfl
                    have hc0 : c8 = 0 := HZ.out rfl
                    subst hq0 hc0
                    go_wp2_with fail
                    go_quiet (fail)
                    obtain ⟨n1, rfl⟩ : ∃ n1, n1 = nq := ⟨_, rfl⟩
                    go_wp2_with fail
                    go_quiet (fail)
                    go_wp2_with fail
                    have hba : Below wr.heap.size wr (((wr.drewN n1).drewN nq).drew) := (below_dn (below_dn (Below.refl _ _) _) _).drew
                    refine wp_region_noPanic ?_
                    refine wp_region_held_drew (S := RS w3 (ad.add k) (ad.add k) z z) (by kernel_rfl) ((hS0.dn _).dn _).drew (fun hHeld => ?_)
                    generalize (((wr.drewN n1).drewN nq).drew) = W0 at hba hHeld ⊢
                    refine wpAnyH_take (i := 0) (oi := ({ dst := some 92, op := Op.move (Operand.tmp 5), type := 46, pos := "ref.go:117", after := #[], guard := none } : Oper)) (v := ?_) rfl (by kernel_rfl) (by kernel_rfl) (by kernel_rfl) (fun _ _ _ h => h) (Or.inl ⟨by rfl, ?_⟩) (by assumption) ?_
                    rotate_left 1
                    · intro w hSw
                      have s0 := hSw.c0
                      have s1 := hSw.c1
                      (try go_simp)
                      (try with_reducible rfl)
                    (try simp only [Act.put, List.setIfInBounds_toArray, List.set_cons_zero, List.set_cons_succ])
                    refine wpAnyH_take (i := 1) (oi := ({ dst := some 93, op := Op.move (Operand.tmp 9), type := 3, pos := "ref.go:117", after := #[], guard := none } : Oper)) (v := ?_) rfl (by kernel_rfl) (by kernel_rfl) (by kernel_rfl) (fun _ _ _ h => h) (Or.inl ⟨by rfl, ?_⟩) (by assumption) ?_
                    rotate_left 1
                    · intro w hSw
                      have s0 := hSw.c0
                      have s1 := hSw.c1
                      (try go_simp)
                      (try with_reducible rfl)
                    (try simp only [Act.put, List.setIfInBounds_toArray, List.set_cons_zero, List.set_cons_succ])
                    refine wpAnyH_take (i := 2) (oi := ({ dst := some 94, op := Op.indexAddr 46 (Operand.tmp 92) (Operand.tmp 93), type := 0, pos := "ref.go:117", after := #[{ on := 0, ground := Ground.data }, { on := 1, ground := Ground.data }], guard := none } : Oper)) (v := ?_) rfl (by kernel_rfl) (by kernel_rfl) (by kernel_rfl) (fun _ _ _ h => h) (Or.inl ⟨by rfl, ?_⟩) (by assumption) ?_
                    rotate_left 1
                    · intro w hSw
                      have s0 := hSw.c0
                      have s1 := hSw.c1
                      (try go_simp)
                      (try with_reducible rfl)
                    (try simp only [Act.put, List.setIfInBounds_toArray, List.set_cons_zero, List.set_cons_succ])
                    refine wpAnyH_take (i := 3) (oi := ({ dst := some 95, op := Op.load 2 (Operand.tmp 94), type := 2, pos := "ref.go:117", after := #[{ on := 2, ground := Ground.data }], guard := none } : Oper)) (v := ?_) rfl (by kernel_rfl) (by kernel_rfl) (by kernel_rfl) (fun _ _ _ h => h) (Or.inl ⟨by rfl, ?_⟩) (by assumption) ?_
                    rotate_left 1
                    · intro w hSw
                      have s0 := hSw.c0
                      have s1 := hSw.c1
                      (try go_simp)
                      (try with_reducible rfl)
                    (try simp only [Act.put, List.setIfInBounds_toArray, List.set_cons_zero, List.set_cons_succ])
                    refine wpAnyH_take (i := 5) (oi := ({ dst := some 97, op := Op.move (Operand.tmp 8), type := 46, pos := "ref.go:117", after := #[], guard := none } : Oper)) (v := ?_) rfl (by kernel_rfl) (by kernel_rfl) (by kernel_rfl) (fun _ _ _ h => h) (Or.inl ⟨by rfl, ?_⟩) (by assumption) ?_
                    rotate_left 1
                    · intro w hSw
                      have s0 := hSw.c0
                      have s1 := hSw.c1
                      (try go_simp)
                      (try with_reducible rfl)
                    (try simp only [Act.put, List.setIfInBounds_toArray, List.set_cons_zero, List.set_cons_succ])
                    refine wpAnyH_take (i := 6) (oi := ({ dst := some 98, op := Op.move (Operand.tmp 10), type := 3, pos := "ref.go:117", after := #[], guard := none } : Oper)) (v := ?_) rfl (by kernel_rfl) (by kernel_rfl) (by kernel_rfl) (fun _ _ _ h => h) (Or.inl ⟨by rfl, ?_⟩) (by assumption) ?_
                    rotate_left 1
                    · intro w hSw
                      have s0 := hSw.c0
                      have s1 := hSw.c1
                      (try go_simp)
                      (try with_reducible rfl)
                    (try simp only [Act.put, List.setIfInBounds_toArray, List.set_cons_zero, List.set_cons_succ])
                    refine wpAnyH_take (i := 7) (oi := ({ dst := some 99, op := Op.slice 46 (Operand.tmp 97) (some (Operand.tmp 98)) none none, type := 46, pos := "ref.go:117", after := #[{ on := 5, ground := Ground.data }, { on := 6, ground := Ground.data }], guard := none } : Oper)) (v := ?_) rfl (by kernel_rfl) (by kernel_rfl) (by kernel_rfl) (fun _ _ _ h => h) (Or.inl ⟨by rfl, ?_⟩) (by assumption) ?_
                    rotate_left 1
                    · intro w hSw
                      have s0 := hSw.c0
                      have s1 := hSw.c1
                      (try go_simp)
                      (try with_reducible rfl)
                    (try simp only [Act.put, List.setIfInBounds_toArray, List.set_cons_zero, List.set_cons_succ])
                    refine wpAnyH_ready (rs := [4]) (by kernel_rfl) (by simp) ?_
                    refine AllReadyH.cons (o := ({ dst := some 96, op := Op.buildSlice 46 1 #[(0, Operand.tmp 95)], type := 46, pos := "ref.go:117", after := #[{ on := 3, ground := Ground.data }], guard := none } : Oper)) rfl (fun K hK => ?_) (AllReadyH.nil)
                    go_simp
                    obtain ⟨W1, hw1, hb1, -, hOr⟩ := num_made W0 z
                    rw [hw1]
                    clear hw1
                    have hB0 := bt hU.out.bel hU.out.bel.size hba
                    have hB1 := bt hB0 hB0.size hb1
                    have hbw : Below wr.heap.size wr W1 := bt hba hba.size hb1
                    refine hK.out _ _ (hHeld.on hB1) (fun _ => ?_)
                    clear hK K
                    (try simp only [Act.put, List.setIfInBounds_toArray, List.set_cons_zero, List.set_cons_succ])
                    refine wpAnyH_ready (rs := [8]) (by kernel_rfl) (by simp) ?_
                    refine AllReadyH.cons (o := ({ dst := some 100, op := Op.call { callee := Callee.builtin Builtin.append, args := #[Operand.tmp 96, Operand.tmp 99], argTypes := #[46, 46] }, type := 46, pos := "ref.go:117", after := #[{ on := 4, ground := Ground.data }, { on := 7, ground := Ground.data }], guard := none } : Oper)) rfl (fun K hK => ?_) (AllReadyH.nil)
                    refine wp_num _ _ rfl W0.heap.size (.slice (some ⟨W0.heap.size, 0, none⟩) 1 1) [z] rfl hOr _ _ _ _ U Hq.out rfl (NumL.below HU2.out hbw) (fun _ => rfl) hb1.size (by simp) (by omega) ?_
                    intro v2 W2 hOw2 hb2 hgr2
                    have hB02 : Below W0.heap.size W0 W2 := hb1.trans hb2
                    have hB2 := bt hB0 hB0.size hB02
                    have hbw2 : Below wr.heap.size wr W2 := bt hba hba.size hB02
                    refine hK.out _ _ (hHeld.on hB2) (fun _ => ?_)
                    clear hK K hgr2
                    (try simp only [Act.put, List.setIfInBounds_toArray, List.set_cons_zero, List.set_cons_succ])
                    refine wpAnyH_take (i := 9) (oi := ({ dst := some 11, op := Op.assign (Operand.tmp 100), type := 46, pos := "ref.go:117", after := #[{ on := 8, ground := Ground.data }, { on := 8, ground := Ground.chain }, { on := 0, ground := Ground.phase }, { on := 1, ground := Ground.phase }, { on := 2, ground := Ground.phase }, { on := 3, ground := Ground.phase }, { on := 4, ground := Ground.phase }, { on := 5, ground := Ground.phase }, { on := 6, ground := Ground.phase }, { on := 7, ground := Ground.phase }, { on := 8, ground := Ground.phase }], guard := none } : Oper)) (v := ?_) rfl (by kernel_rfl) (by kernel_rfl) (by kernel_rfl) (fun _ _ _ h => h) (Or.inl ⟨by rfl, ?_⟩) (by assumption) ?_
                    rotate_left 1
                    · intro w hSw
                      have s0 := hSw.c0
                      have s1 := hSw.c1
                      (try go_simp)
                      (try with_reducible rfl)
                    (try simp only [Act.put, List.setIfInBounds_toArray, List.set_cons_zero, List.set_cons_succ])
                    refine wpAnyH_done (by kernel_rfl) ?_ _
                    refine NoPanic.normal ?_
                    obtain ⟨Ar, cr, her, hr, hzr⟩ := hOw2.reads
                    obtain ⟨r, hr0⟩ : ∃ r, ([z] ++ U).length = r := ⟨_, rfl⟩
                    rw [hr0] at her
                    subst her
                    have hrl : r ≤ 900 := by have h1 := hr0; have h2 := Hq.out; simp only [List.length_append, List.length_cons, List.length_nil, List.length_drop] at h1; omega
                    have HR := Lib.hid hr
                    have HR0 := Lib.hid hr0
                    have HZR := Lib.hid hzr
                    have HB2 := Lib.hid hB2
                    have HBW := Lib.hid hbw2
                    have HSZ := Lib.hid (Nat.le_trans hB0.size hB02.size)
                    have HE0 : Hid (OwnNum (W2.alloc (.cells #[] 2)) W2.heap.size (.slice (some ⟨W2.heap.size, 0, none⟩) 0 0) []) := Lib.hid (World.ownsRow_made W2 #[] 0 (Nat.le_refl _) (by unfold maxLen; omega) rfl)
                    clear hba hHeld hS0 c0 hB0 hB1 hb1 hbw hOw2 hb2 hB02 hB2 hbw2 hr hr0 hzr hOr
                    go_wp2_with (at_builtin; refine wpList_num rfl _ _ rfl W2.heap.size (.slice (some ⟨W2.heap.size, 0, none⟩) 0 0) [] rfl HE0.out wr.heap.size _ _ _ (U.take 0) ?a1n rfl ?a2n ?a3n ?a4n (by simp) ?a5n ?_)
                    case a1n => (simp only [List.length_take, Hq.out]; omega)
                    case a2n => exact (NumL.below HU2.out (bt HBW.out HBW.out.size (below_new _ _))).upto 0
                    case a4n => exact (below_new _ _).size
                    case a5n => omega
                    intro v3 W3 hOw3 hb3 hgr3
                    have HO3 := Lib.hid hOw3
                    have HB3' := Lib.hid ((below_new W2 (.cells #[] 2)).trans hb3)
                    clear hOw3 hb3 hgr3
                    go_wp2_with (at_builtin; refine wpList_num rfl _ _ rfl W2.heap.size v3 ([] ++ (U.take 0)) rfl HO3.out W2.heap.size Ar cr r ([z] ++ U) HR0.out rfl (HR.out.below HB3'.out) HZR.out HB3'.out.size ?b1n ?b2n ?_)
                    case b1n => (have := Hq.out; simp only [List.nil_append, List.length_take]; omega)
                    case b2n => omega
                    intro v4 W4 hOw4 hb4 hgr4
                    have HW : Hid (UpI w3 N (k + 1) v4 W4 (U.take 0 ++ z :: U.drop 0)) := Lib.hid (UpI.ins hU.out hkf Hz.out (by rw [Hq.out]; omega) hA.out (fun j hj e => by omega) (hOw4.mono HSZ.out) (bt HB2.out HB2.out.size (HB3'.out.trans hb4)))
                    clear hOw4 hb4 hgr4
                    go_wp2_with fail
                    go_roundw
                    case rel => exact ⟨k + 1, _, by omega, by go_num, HW⟩
                    case measure => simp [intOf]; omega
                  · have q4 : (0 : Int) ≤ (c8 : Int) := by omega
                    go_wp2_with fail
                    go_quiet (fail)
                    obtain ⟨n1, rfl⟩ : ∃ n1, n1 = nq := ⟨_, rfl⟩
                    go_wp2_with fail
                    go_quiet (fail)
                    go_wp2_with fail
                    have hba : Below wr.heap.size wr (((wr.drewN n1).drewN nq).drew) := (below_dn (below_dn (Below.refl _ _) _) _).drew
                    refine wp_region_noPanic ?_
                    refine wp_region_held_drew (S := RS w3 (ad.add k) (ad.add k) z z) (by kernel_rfl) ((hS0.dn _).dn _).drew (fun hHeld => ?_)
                    generalize (((wr.drewN n1).drewN nq).drew) = W0 at hba hHeld ⊢
                    refine wpAnyH_take (i := 0) (oi := ({ dst := some 92, op := Op.move (Operand.tmp 5), type := 46, pos := "ref.go:117", after := #[], guard := none } : Oper)) (v := ?_) rfl (by kernel_rfl) (by kernel_rfl) (by kernel_rfl) (fun _ _ _ h => h) (Or.inl ⟨by rfl, ?_⟩) (by assumption) ?_
                    rotate_left 1
                    · intro w hSw
                      have s0 := hSw.c0
                      have s1 := hSw.c1
                      (try go_simp)
                      (try with_reducible rfl)
                    (try simp only [Act.put, List.setIfInBounds_toArray, List.set_cons_zero, List.set_cons_succ])
                    refine wpAnyH_take (i := 1) (oi := ({ dst := some 93, op := Op.move (Operand.tmp 9), type := 3, pos := "ref.go:117", after := #[], guard := none } : Oper)) (v := ?_) rfl (by kernel_rfl) (by kernel_rfl) (by kernel_rfl) (fun _ _ _ h => h) (Or.inl ⟨by rfl, ?_⟩) (by assumption) ?_
                    rotate_left 1
                    · intro w hSw
                      have s0 := hSw.c0
                      have s1 := hSw.c1
                      (try go_simp)
                      (try with_reducible rfl)
                    (try simp only [Act.put, List.setIfInBounds_toArray, List.set_cons_zero, List.set_cons_succ])
                    refine wpAnyH_take (i := 2) (oi := ({ dst := some 94, op := Op.indexAddr 46 (Operand.tmp 92) (Operand.tmp 93), type := 0, pos := "ref.go:117", after := #[{ on := 0, ground := Ground.data }, { on := 1, ground := Ground.data }], guard := none } : Oper)) (v := ?_) rfl (by kernel_rfl) (by kernel_rfl) (by kernel_rfl) (fun _ _ _ h => h) (Or.inl ⟨by rfl, ?_⟩) (by assumption) ?_
                    rotate_left 1
                    · intro w hSw
                      have s0 := hSw.c0
                      have s1 := hSw.c1
                      (try go_simp)
                      (try with_reducible rfl)
                    (try simp only [Act.put, List.setIfInBounds_toArray, List.set_cons_zero, List.set_cons_succ])
                    refine wpAnyH_take (i := 3) (oi := ({ dst := some 95, op := Op.load 2 (Operand.tmp 94), type := 2, pos := "ref.go:117", after := #[{ on := 2, ground := Ground.data }], guard := none } : Oper)) (v := ?_) rfl (by kernel_rfl) (by kernel_rfl) (by kernel_rfl) (fun _ _ _ h => h) (Or.inl ⟨by rfl, ?_⟩) (by assumption) ?_
                    rotate_left 1
                    · intro w hSw
                      have s0 := hSw.c0
                      have s1 := hSw.c1
                      (try go_simp)
                      (try with_reducible rfl)
                    (try simp only [Act.put, List.setIfInBounds_toArray, List.set_cons_zero, List.set_cons_succ])
                    refine wpAnyH_take (i := 5) (oi := ({ dst := some 97, op := Op.move (Operand.tmp 8), type := 46, pos := "ref.go:117", after := #[], guard := none } : Oper)) (v := ?_) rfl (by kernel_rfl) (by kernel_rfl) (by kernel_rfl) (fun _ _ _ h => h) (Or.inl ⟨by rfl, ?_⟩) (by assumption) ?_
                    rotate_left 1
                    · intro w hSw
                      have s0 := hSw.c0
                      have s1 := hSw.c1
                      (try go_simp)
                      (try with_reducible rfl)
                    (try simp only [Act.put, List.setIfInBounds_toArray, List.set_cons_zero, List.set_cons_succ])
                    refine wpAnyH_take (i := 6) (oi := ({ dst := some 98, op := Op.move (Operand.tmp 10), type := 3, pos := "ref.go:117", after := #[], guard := none } : Oper)) (v := ?_) rfl (by kernel_rfl) (by kernel_rfl) (by kernel_rfl) (fun _ _ _ h => h) (Or.inl ⟨by rfl, ?_⟩) (by assumption) ?_
                    rotate_left 1
                    · intro w hSw
                      have s0 := hSw.c0
                      have s1 := hSw.c1
                      (try go_simp)
                      (try with_reducible rfl)
                    (try simp only [Act.put, List.setIfInBounds_toArray, List.set_cons_zero, List.set_cons_succ])
                    refine wpAnyH_take (i := 7) (oi := ({ dst := some 99, op := Op.slice 46 (Operand.tmp 97) (some (Operand.tmp 98)) none none, type := 46, pos := "ref.go:117", after := #[{ on := 5, ground := Ground.data }, { on := 6, ground := Ground.data }], guard := none } : Oper)) (v := ?_) rfl (by kernel_rfl) (by kernel_rfl) (by kernel_rfl) (fun _ _ _ h => h) (Or.inl ⟨by rfl, ?_⟩) (by assumption) ?_
                    rotate_left 1
                    · intro w hSw
                      have s0 := hSw.c0
                      have s1 := hSw.c1
                      (try go_simp)
                      (try with_reducible rfl)
                    (try simp only [Act.put, List.setIfInBounds_toArray, List.set_cons_zero, List.set_cons_succ])
                    refine wpAnyH_ready (rs := [4]) (by kernel_rfl) (by simp) ?_
                    refine AllReadyH.cons (o := ({ dst := some 96, op := Op.buildSlice 46 1 #[(0, Operand.tmp 95)], type := 46, pos := "ref.go:117", after := #[{ on := 3, ground := Ground.data }], guard := none } : Oper)) rfl (fun K hK => ?_) (AllReadyH.nil)
                    go_simp
                    obtain ⟨W1, hw1, hb1, -, hOr⟩ := num_made W0 z
                    rw [hw1]
                    clear hw1
                    have hB0 := bt hU.out.bel hU.out.bel.size hba
                    have hB1 := bt hB0 hB0.size hb1
                    have hbw : Below wr.heap.size wr W1 := bt hba hba.size hb1
                    refine hK.out _ _ (hHeld.on hB1) (fun _ => ?_)
                    clear hK K
                    (try simp only [Act.put, List.setIfInBounds_toArray, List.set_cons_zero, List.set_cons_succ])
                    refine wpAnyH_ready (rs := [8]) (by kernel_rfl) (by simp) ?_
                    refine AllReadyH.cons (o := ({ dst := some 100, op := Op.call { callee := Callee.builtin Builtin.append, args := #[Operand.tmp 96, Operand.tmp 99], argTypes := #[46, 46] }, type := 46, pos := "ref.go:117", after := #[{ on := 4, ground := Ground.data }, { on := 7, ground := Ground.data }], guard := none } : Oper)) rfl (fun K hK => ?_) (AllReadyH.nil)
                    refine wp_num _ _ rfl W0.heap.size (.slice (some ⟨W0.heap.size, 0, none⟩) 1 1) [z] rfl hOr _ _ _ _ U Hq.out rfl (NumL.below HU2.out hbw) (fun e => by cases e) hb1.size (by simp) (by omega) ?_
                    intro v2 W2 hOw2 hb2 hgr2
                    have hB02 : Below W0.heap.size W0 W2 := hb1.trans hb2
                    have hB2 := bt hB0 hB0.size hB02
                    have hbw2 : Below wr.heap.size wr W2 := bt hba hba.size hB02
                    refine hK.out _ _ (hHeld.on hB2) (fun _ => ?_)
                    clear hK K hgr2
                    (try simp only [Act.put, List.setIfInBounds_toArray, List.set_cons_zero, List.set_cons_succ])
                    refine wpAnyH_take (i := 9) (oi := ({ dst := some 11, op := Op.assign (Operand.tmp 100), type := 46, pos := "ref.go:117", after := #[{ on := 8, ground := Ground.data }, { on := 8, ground := Ground.chain }, { on := 0, ground := Ground.phase }, { on := 1, ground := Ground.phase }, { on := 2, ground := Ground.phase }, { on := 3, ground := Ground.phase }, { on := 4, ground := Ground.phase }, { on := 5, ground := Ground.phase }, { on := 6, ground := Ground.phase }, { on := 7, ground := Ground.phase }, { on := 8, ground := Ground.phase }], guard := none } : Oper)) (v := ?_) rfl (by kernel_rfl) (by kernel_rfl) (by kernel_rfl) (fun _ _ _ h => h) (Or.inl ⟨by rfl, ?_⟩) (by assumption) ?_
                    rotate_left 1
                    · intro w hSw
                      have s0 := hSw.c0
                      have s1 := hSw.c1
                      (try go_simp)
                      (try with_reducible rfl)
                    (try simp only [Act.put, List.setIfInBounds_toArray, List.set_cons_zero, List.set_cons_succ])
                    refine wpAnyH_done (by kernel_rfl) ?_ _
                    refine NoPanic.normal ?_
                    obtain ⟨Ar, cr, her, hr, hzr⟩ := hOw2.reads
                    obtain ⟨r, hr0⟩ : ∃ r, ([z] ++ U).length = r := ⟨_, rfl⟩
                    rw [hr0] at her
                    subst her
                    have hrl : r ≤ 900 := by have h1 := hr0; have h2 := Hq.out; simp only [List.length_append, List.length_cons, List.length_nil, List.length_drop] at h1; omega
                    have HR := Lib.hid hr
                    have HR0 := Lib.hid hr0
                    have HZR := Lib.hid hzr
                    have HB2 := Lib.hid hB2
                    have HBW := Lib.hid hbw2
                    have HSZ := Lib.hid (Nat.le_trans hB0.size hB02.size)
                    have HE0 : Hid (OwnNum (W2.alloc (.cells #[] 2)) W2.heap.size (.slice (some ⟨W2.heap.size, 0, none⟩) 0 0) []) := Lib.hid (World.ownsRow_made W2 #[] 0 (Nat.le_refl _) (by unfold maxLen; omega) rfl)
                    clear hba hHeld hS0 c0 hB0 hB1 hb1 hbw hOw2 hb2 hB02 hB2 hbw2 hr hr0 hzr hOr
                    go_wp2_with (at_builtin; refine wpList_num rfl _ _ rfl W2.heap.size (.slice (some ⟨W2.heap.size, 0, none⟩) 0 0) [] rfl HE0.out wr.heap.size _ _ _ (U.take 0) ?a1z rfl ?a2z ?a3z ?a4z (by simp) ?a5z ?_)
                    case a1z => (simp only [List.length_take, Hq.out]; omega)
                    case a2z => exact (NumL.below HU2.out (bt HBW.out HBW.out.size (below_new _ _))).upto 0
                    case a3z => exact fun e => by cases e
                    case a4z => exact (below_new _ _).size
                    case a5z => omega
                    intro v3 W3 hOw3 hb3 hgr3
                    have HO3 := Lib.hid hOw3
                    have HB3' := Lib.hid ((below_new W2 (.cells #[] 2)).trans hb3)
                    clear hOw3 hb3 hgr3
                    go_wp2_with (at_builtin; refine wpList_num rfl _ _ rfl W2.heap.size v3 ([] ++ (U.take 0)) rfl HO3.out W2.heap.size Ar cr r ([z] ++ U) HR0.out rfl (HR.out.below HB3'.out) HZR.out HB3'.out.size ?b1z ?b2z ?_)
                    case b1z => (have := Hq.out; simp only [List.nil_append, List.length_take]; omega)
                    case b2z => omega
                    intro v4 W4 hOw4 hb4 hgr4
                    have HW : Hid (UpI w3 N (k + 1) v4 W4 (U.take 0 ++ z :: U.drop 0)) := Lib.hid (UpI.ins hU.out hkf Hz.out (by rw [Hq.out]; omega) hA.out (fun j hj e => by omega) (hOw4.mono HSZ.out) (bt HB2.out HB2.out.size (HB3'.out.trans hb4)))
                    clear hOw4 hb4 hgr4
                    go_wp2_with fail
                    go_roundw
                    case rel => exact ⟨k + 1, _, by omega, by go_num, HW⟩
                    case measure => simp [intOf]; omega
                · obtain ⟨p, rfl⟩ : ∃ p', p = p' + 1 := ⟨p - 1, by omega⟩
                  have hpf : p < U.length := by rw [Hq.out]; omega
                  obtain ⟨ad8, he, hlb8, d0⟩ := HU2.out.cells p hpf
                  subst he
                  obtain ⟨y, hy⟩ : ∃ y, U[p]'hpf = y := ⟨_, rfl⟩
                  rw [hy] at d0
                  have Hy := Lib.hid hy
                  clear hy hlb8
                  have q1 : (0 : Int) ≤ (p : Int) + 1 := by omega
                  have q2 : (p : Int) + 1 ≤ (q : Int) := by omega
                  have q3 : (p : Int) + 1 ≤ (c8 : Int) := by omega
                  by_cases h1 : z < y
                  · have HA2 : Hid (∀ j (hj : j < U.length), p ≤ j → z < U[j]) := Lib.hid (fun j hj h => by
                      by_cases e : j = p
                      · subst e; rw [Hy.out]; exact h1
                      · exact hA.out j hj (by omega))
                    go_wp2_with fail
                    go_quiet (fail)
                    go_wp2_with fail
                    go_round
                    case rel => exact ⟨p, by omega, by go_num, HA2, Lib.hid (below_dn hbo.out _)⟩
                    case measure => (simp [intOf] <;> omega)
                  · by_cases h2 : y = z
                    · subst h2
                      have HM : Hid (y ∈ U) := Lib.hid (by rw [← Hy.out]; exact List.getElem_mem _)
                      go_wp2_with fail
                      go_quiet (fail)
                      go_wp2_with fail
                      go_quiet (fail)
                      go_wp2_with fail
                      go_roundw
                      case rel => exact ⟨k + 1, _, by omega, by go_num, Lib.hid ((hU.out.on (by first | exact below_dn (below_dn (Below.refl _ _) _) _ | exact below_dn (Below.refl _ _) _)).same hkf Hz.out HM.out)⟩
                      case measure => simp [intOf]; omega
                    · have H2 : Hid (∀ j (hj : j < U.length), j + 1 = p + 1 → U[j] < z) := Lib.hid (fun j hj e => by
                        obtain rfl : j = p := by omega
                        rw [Hy.out]; omega)
                      go_wp2_with fail
                      go_quiet (fail)
                      obtain ⟨n1, rfl⟩ : ∃ n1, n1 = nq := ⟨_, rfl⟩
                      go_wp2_with fail
                      go_quiet (fail)
                      go_wp2_with fail
                      have hba : Below wr.heap.size wr (((wr.drewN n1).drewN nq).drew) := (below_dn (below_dn (Below.refl _ _) _) _).drew
                      refine wp_region_noPanic ?_
                      refine wp_region_held_drew (S := RS w3 (ad.add k) (ad.add k) z z) (by kernel_rfl) ((hS0.dn _).dn _).drew (fun hHeld => ?_)
                      generalize (((wr.drewN n1).drewN nq).drew) = W0 at hba hHeld ⊢
                      refine wpAnyH_take (i := 0) (oi := ({ dst := some 92, op := Op.move (Operand.tmp 5), type := 46, pos := "ref.go:117", after := #[], guard := none } : Oper)) (v := ?_) rfl (by kernel_rfl) (by kernel_rfl) (by kernel_rfl) (fun _ _ _ h => h) (Or.inl ⟨by rfl, ?_⟩) (by assumption) ?_
                      rotate_left 1
                      · intro w hSw
                        have s0 := hSw.c0
                        have s1 := hSw.c1
                        (try go_simp)
                        (try with_reducible rfl)
                      (try simp only [Act.put, List.setIfInBounds_toArray, List.set_cons_zero, List.set_cons_succ])
                      refine wpAnyH_take (i := 1) (oi := ({ dst := some 93, op := Op.move (Operand.tmp 9), type := 3, pos := "ref.go:117", after := #[], guard := none } : Oper)) (v := ?_) rfl (by kernel_rfl) (by kernel_rfl) (by kernel_rfl) (fun _ _ _ h => h) (Or.inl ⟨by rfl, ?_⟩) (by assumption) ?_
                      rotate_left 1
                      · intro w hSw
                        have s0 := hSw.c0
                        have s1 := hSw.c1
                        (try go_simp)
                        (try with_reducible rfl)
                      (try simp only [Act.put, List.setIfInBounds_toArray, List.set_cons_zero, List.set_cons_succ])
                      refine wpAnyH_take (i := 2) (oi := ({ dst := some 94, op := Op.indexAddr 46 (Operand.tmp 92) (Operand.tmp 93), type := 0, pos := "ref.go:117", after := #[{ on := 0, ground := Ground.data }, { on := 1, ground := Ground.data }], guard := none } : Oper)) (v := ?_) rfl (by kernel_rfl) (by kernel_rfl) (by kernel_rfl) (fun _ _ _ h => h) (Or.inl ⟨by rfl, ?_⟩) (by assumption) ?_
                      rotate_left 1
                      · intro w hSw
                        have s0 := hSw.c0
                        have s1 := hSw.c1
                        (try go_simp)
                        (try with_reducible rfl)
                      (try simp only [Act.put, List.setIfInBounds_toArray, List.set_cons_zero, List.set_cons_succ])
                      refine wpAnyH_take (i := 3) (oi := ({ dst := some 95, op := Op.load 2 (Operand.tmp 94), type := 2, pos := "ref.go:117", after := #[{ on := 2, ground := Ground.data }], guard := none } : Oper)) (v := ?_) rfl (by kernel_rfl) (by kernel_rfl) (by kernel_rfl) (fun _ _ _ h => h) (Or.inl ⟨by rfl, ?_⟩) (by assumption) ?_
                      rotate_left 1
                      · intro w hSw
                        have s0 := hSw.c0
                        have s1 := hSw.c1
                        (try go_simp)
                        (try with_reducible rfl)
                      (try simp only [Act.put, List.setIfInBounds_toArray, List.set_cons_zero, List.set_cons_succ])
                      refine wpAnyH_take (i := 5) (oi := ({ dst := some 97, op := Op.move (Operand.tmp 8), type := 46, pos := "ref.go:117", after := #[], guard := none } : Oper)) (v := ?_) rfl (by kernel_rfl) (by kernel_rfl) (by kernel_rfl) (fun _ _ _ h => h) (Or.inl ⟨by rfl, ?_⟩) (by assumption) ?_
                      rotate_left 1
                      · intro w hSw
                        have s0 := hSw.c0
                        have s1 := hSw.c1
                        (try go_simp)
                        (try with_reducible rfl)
                      (try simp only [Act.put, List.setIfInBounds_toArray, List.set_cons_zero, List.set_cons_succ])
                      refine wpAnyH_take (i := 6) (oi := ({ dst := some 98, op := Op.move (Operand.tmp 10), type := 3, pos := "ref.go:117", after := #[], guard := none } : Oper)) (v := ?_) rfl (by kernel_rfl) (by kernel_rfl) (by kernel_rfl) (fun _ _ _ h => h) (Or.inl ⟨by rfl, ?_⟩) (by assumption) ?_
                      rotate_left 1
                      · intro w hSw
                        have s0 := hSw.c0
                        have s1 := hSw.c1
                        (try go_simp)
                        (try with_reducible rfl)
                      (try simp only [Act.put, List.setIfInBounds_toArray, List.set_cons_zero, List.set_cons_succ])
                      refine wpAnyH_take (i := 7) (oi := ({ dst := some 99, op := Op.slice 46 (Operand.tmp 97) (some (Operand.tmp 98)) none none, type := 46, pos := "ref.go:117", after := #[{ on := 5, ground := Ground.data }, { on := 6, ground := Ground.data }], guard := none } : Oper)) (v := ?_) rfl (by kernel_rfl) (by kernel_rfl) (by kernel_rfl) (fun _ _ _ h => h) (Or.inl ⟨by rfl, ?_⟩) (by assumption) ?_
                      rotate_left 1
                      · intro w hSw
                        have s0 := hSw.c0
                        have s1 := hSw.c1
                        (try go_simp)
                        (try with_reducible rfl)
                      (try simp only [Act.put, List.setIfInBounds_toArray, List.set_cons_zero, List.set_cons_succ])
                      have hcut := HU2.out.cut p (by rw [Hq.out]; exact hp)
                      have hcn : (if c8 = p + 1 then some ad8 else some ⟨ad8.block, ad8.off + (p + 1), none⟩) = none → c8 - (p + 1) = 0 := fun e => by split at e <;> cases e
                      generalize (if c8 = p + 1 then some ad8 else some ⟨ad8.block, ad8.off + (p + 1), none⟩) = AQ at hcut hcn ⊢
                      refine wpAnyH_ready (rs := [4]) (by kernel_rfl) (by simp) ?_
                      refine AllReadyH.cons (o := ({ dst := some 96, op := Op.buildSlice 46 1 #[(0, Operand.tmp 95)], type := 46, pos := "ref.go:117", after := #[{ on := 3, ground := Ground.data }], guard := none } : Oper)) rfl (fun K hK => ?_) (AllReadyH.nil)
                      go_simp
                      obtain ⟨W1, hw1, hb1, -, hOr⟩ := num_made W0 z
                      rw [hw1]
                      clear hw1
                      have hB0 := bt hU.out.bel hU.out.bel.size hba
                      have hB1 := bt hB0 hB0.size hb1
                      have hbw : Below wr.heap.size wr W1 := bt hba hba.size hb1
                      refine hK.out _ _ (hHeld.on hB1) (fun _ => ?_)
                      clear hK K
                      (try simp only [Act.put, List.setIfInBounds_toArray, List.set_cons_zero, List.set_cons_succ])
                      refine wpAnyH_ready (rs := [8]) (by kernel_rfl) (by simp) ?_
                      refine AllReadyH.cons (o := ({ dst := some 100, op := Op.call { callee := Callee.builtin Builtin.append, args := #[Operand.tmp 96, Operand.tmp 99], argTypes := #[46, 46] }, type := 46, pos := "ref.go:117", after := #[{ on := 4, ground := Ground.data }, { on := 7, ground := Ground.data }], guard := none } : Oper)) rfl (fun K hK => ?_) (AllReadyH.nil)
                      refine wp_num _ _ rfl W0.heap.size (.slice (some ⟨W0.heap.size, 0, none⟩) 1 1) [z] rfl hOr _ _ _ _ (U.drop (p + 1)) (by rw [List.length_drop, Hq.out]) rfl (hcut.below hbw) hcn hb1.size (by simp) (by omega) ?_
                      intro v2 W2 hOw2 hb2 hgr2
                      have hB02 : Below W0.heap.size W0 W2 := hb1.trans hb2
                      have hB2 := bt hB0 hB0.size hB02
                      have hbw2 : Below wr.heap.size wr W2 := bt hba hba.size hB02
                      refine hK.out _ _ (hHeld.on hB2) (fun _ => ?_)
                      clear hK K hgr2
                      (try simp only [Act.put, List.setIfInBounds_toArray, List.set_cons_zero, List.set_cons_succ])
                      refine wpAnyH_take (i := 9) (oi := ({ dst := some 11, op := Op.assign (Operand.tmp 100), type := 46, pos := "ref.go:117", after := #[{ on := 8, ground := Ground.data }, { on := 8, ground := Ground.chain }, { on := 0, ground := Ground.phase }, { on := 1, ground := Ground.phase }, { on := 2, ground := Ground.phase }, { on := 3, ground := Ground.phase }, { on := 4, ground := Ground.phase }, { on := 5, ground := Ground.phase }, { on := 6, ground := Ground.phase }, { on := 7, ground := Ground.phase }, { on := 8, ground := Ground.phase }], guard := none } : Oper)) (v := ?_) rfl (by kernel_rfl) (by kernel_rfl) (by kernel_rfl) (fun _ _ _ h => h) (Or.inl ⟨by rfl, ?_⟩) (by assumption) ?_
                      rotate_left 1
                      · intro w hSw
                        have s0 := hSw.c0
                        have s1 := hSw.c1
                        (try go_simp)
                        (try with_reducible rfl)
                      (try simp only [Act.put, List.setIfInBounds_toArray, List.set_cons_zero, List.set_cons_succ])
                      refine wpAnyH_done (by kernel_rfl) ?_ _
                      refine NoPanic.normal ?_
                      obtain ⟨Ar, cr, her, hr, hzr⟩ := hOw2.reads
                      obtain ⟨r, hr0⟩ : ∃ r, ([z] ++ (U.drop (p + 1))).length = r := ⟨_, rfl⟩
                      rw [hr0] at her
                      subst her
                      have hrl : r ≤ 900 := by have h1 := hr0; have h2 := Hq.out; simp only [List.length_append, List.length_cons, List.length_nil, List.length_drop] at h1; omega
                      have HR := Lib.hid hr
                      have HR0 := Lib.hid hr0
                      have HZR := Lib.hid hzr
                      have HB2 := Lib.hid hB2
                      have HBW := Lib.hid hbw2
                      have HSZ := Lib.hid (Nat.le_trans hB0.size hB02.size)
                      have HE0 : Hid (OwnNum (W2.alloc (.cells #[] 2)) W2.heap.size (.slice (some ⟨W2.heap.size, 0, none⟩) 0 0) []) := Lib.hid (World.ownsRow_made W2 #[] 0 (Nat.le_refl _) (by unfold maxLen; omega) rfl)
                      clear hba hHeld hS0 c0 hB0 hB1 hb1 hbw hOw2 hb2 hB02 hB2 hbw2 hr hr0 hzr hOr
                      go_wp2_with (at_builtin; refine wpList_num rfl _ _ rfl W2.heap.size (.slice (some ⟨W2.heap.size, 0, none⟩) 0 0) [] rfl HE0.out wr.heap.size _ _ _ (U.take (p + 1)) ?a1s rfl ?a2s ?a3s ?a4s (by simp) ?a5s ?_)
                      case a1s => (simp only [List.length_take, Hq.out]; omega)
                      case a2s => exact (NumL.below HU2.out (bt HBW.out HBW.out.size (below_new _ _))).upto (p + 1)
                      case a3s => exact fun e => by cases e
                      case a4s => exact (below_new _ _).size
                      case a5s => omega
                      intro v3 W3 hOw3 hb3 hgr3
                      have HO3 := Lib.hid hOw3
                      have HB3' := Lib.hid ((below_new W2 (.cells #[] 2)).trans hb3)
                      clear hOw3 hb3 hgr3
                      go_wp2_with (at_builtin; refine wpList_num rfl _ _ rfl W2.heap.size v3 ([] ++ (U.take (p + 1))) rfl HO3.out W2.heap.size Ar cr r ([z] ++ (U.drop (p + 1))) HR0.out rfl (HR.out.below HB3'.out) HZR.out HB3'.out.size ?b1s ?b2s ?_)
                      case b1s => (have := Hq.out; simp only [List.nil_append, List.length_take]; omega)
                      case b2s => omega
                      intro v4 W4 hOw4 hb4 hgr4
                      have HW : Hid (UpI w3 N (k + 1) v4 W4 (U.take (p + 1) ++ z :: U.drop (p + 1))) := Lib.hid (UpI.ins hU.out hkf Hz.out (by rw [Hq.out]; omega) hA.out H2.out (hOw4.mono HSZ.out) (bt HB2.out HB2.out.size (HB3'.out.trans hb4)))
                      clear hOw4 hb4 hgr4
                      go_wp2_with fail
                      go_roundw
                      case rel => exact ⟨k + 1, _, by omega, by go_num, HW⟩
                      case measure => simp [intOf]; omega
            · have hkn : k = n := by omega
              have HALL : Hid (∀ z ∈ N, z ∈ U) := Lib.hid (fun z hz => hU.out.all z (by rw [List.take_of_length_le (by rw [Hn.out]; omega)]; exact hz))
              go_wp2_with fail
              go_ret
              exact ⟨A8, c8, q, U, rfl, HU.out, Hq.out, by omega, hU.out.up, T.ends_mono HEnds1.out HALL.out, T.ends_mono HEnds2.out HALL.out, bt HB3.out HB3.out.size hU.out.bel⟩
end Go.Proofs.YtnehllkklmdpfaaDoor
