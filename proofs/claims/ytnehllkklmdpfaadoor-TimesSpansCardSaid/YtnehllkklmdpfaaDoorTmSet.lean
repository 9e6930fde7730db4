/- The reference's set, over a contract of its ends. -/
import Derived.Test.YtnehllkklmdpfaaDoorTmRSets
import Derived.Test.YtnehllkklmdpfaaDoorTmWithout
import Derived.Test.YtnehllkklmdpfaaDoorTmJoin
import Derived.OrdersHeld
import Derived.Deep.RegionHeld3
namespace Go.Proofs.YtnehllkklmdpfaaDoor
open Go.RowKit
open T (SV)
set_option linter.unusedSimpArgs false
set_option maxRecDepth 100000
/-- A slice of numbers that reads as the list L. -/
structure NumL (w : World) (B : Nat) (A : Option Addr) (c : Nat) (L : List Int) : Prop where
  le : L.length ≤ c
  cap : c ≤ maxLen
  cells : ∀ k (h : k < L.length), ∃ ad, A = some ad ∧ ad.block < B ∧ w.cell? (ad.add k) = some (.int .i64 (L[k]))
theorem NumL.below {w w' : World} {B c : Nat} {A : Option Addr} {L : List Int} (h : NumL w B A c L) (hb : Below B w w') : NumL w' B A c L :=
  ⟨h.le, h.cap, fun k hk => by
    obtain ⟨ad, e, h1, h2⟩ := h.cells k hk
    exact ⟨ad, e, h1, by rw [hb.cell (by rw [addr_block]; exact h1)]; exact h2⟩⟩
/-- What the reference's ends answers. -/
def EndsC : Prop := ∀ (A A2 : Option Addr) (c c2 m m2 : Nat) (a b : List SV) (w : World), SpIn w w.heap.size A c a → SpIn w w.heap.size A2 c2 b → a.length = m → b.length = m2 → m ≤ 200 → m2 ≤ 200 →
  Calls Tryd.prog 54 #[.slice A m c, .slice A2 m2 c2] w fun e w' => ∃ A3 c3 M L, e = .returned (.slice A3 (M : Nat) c3) ∧ NumL w' w'.heap.size A3 c3 L ∧ L.length = M ∧ M ≤ 800 ∧ L.Pairwise (· < ·) ∧ T.EndsOf L a ∧ T.EndsOf L b ∧ Below w.heap.size w w'
/-- The gap between two neighbours. -/
theorem T.gap_at {L : List Int} (h : L.Pairwise (· < ·)) {k : Nat} (hk : k + 1 < L.length) : L[k] < L[k + 1] ∧ ∀ z ∈ L, z ≤ L[k] ∨ L[k + 1] ≤ z := by
  rw [List.pairwise_iff_getElem] at h
  refine ⟨h _ _ (by omega) hk (by omega), fun z hz => ?_⟩
  obtain ⟨j, hj, rfl⟩ := List.getElem_of_mem hz
  rcases Nat.lt_trichotomy j k with e | e | e
  · exact Or.inl (Int.le_of_lt (h _ _ hj (by omega) e))
  · subst e; exact Or.inl (Int.le_refl _)
  · by_cases e2 : j = k + 1
    · subst e2; exact Or.inr (Int.le_refl _)
    · exact Or.inr (Int.le_of_lt (h _ _ hk hj (by omega)))
/-- The state of set's loop. -/
structure SetI (w : World) (a b : List SV) (L : List Int) (k : Nat) (v : Value) (acc : List SV) (wr : World) : Prop where
  own : OwnSp wr w.heap.size v acc
  upto : ∀ h : k < L.length, T.Upto a b (L[k]) acc
  fin : ¬ k < L.length → T.Canon (fun t => T.In a t ∧ ¬ T.In b t) acc
  len : acc.length ≤ k
  bel : Below w.heap.size w wr
theorem SetI.start {w : World} {a b : List SV} {L : List Int} (hp : L.Pairwise (· < ·)) (ha : T.EndsOf L a) : SetI w a b L 0 (.slice none 0 0) [] w :=
  ⟨World.ownsRow_nil _ _ _ _, fun h => T.upto_start ha (fun z hz => by
    obtain ⟨j, hj, rfl⟩ := List.getElem_of_mem hz
    rcases Nat.eq_zero_or_pos j with rfl | e
    · exact Int.le_refl _
    · exact Int.le_of_lt (List.pairwise_iff_getElem.1 hp _ _ h hj e)), fun h => by
    have : L = [] := List.length_eq_zero_iff.1 (by omega)
    subst this
    exact T.upto_none ha, Nat.le_refl _, Below.refl _ _⟩
theorem SetI.last {w wr : World} {a b acc : List SV} {L : List Int} {k : Nat} {v : Value} (h : SetI w a b L k v acc wr) (hp : L.Pairwise (· < ·)) (ha : T.EndsOf L a) (hk : ¬ k + 1 < L.length) : T.Canon (fun t => T.In a t ∧ ¬ T.In b t) acc := by
  by_cases e : k < L.length
  · exact T.upto_end (h.upto e) ha (fun z hz => by
      obtain ⟨j, hj, rfl⟩ := List.getElem_of_mem hz
      rcases Nat.lt_or_ge j k with e2 | e2
      · exact Int.le_of_lt (List.pairwise_iff_getElem.1 hp _ _ hj e e2)
      · have : j = k := by omega
        subst this; exact Int.le_refl _)
  · exact h.fin e
theorem SetI.next {w wr : World} {a b acc : List SV} {L : List Int} {k : Nat} {v : Value} {y : Int} (hk : k + 1 < L.length) (hy : L[k + 1] = y) (h1 : OwnSp wr w.heap.size v acc) (h2 : T.Upto a b y acc) (h3 : acc.length ≤ k + 1) (h4 : Below w.heap.size w wr) : SetI w a b L (k + 1) v acc wr :=
  ⟨h1, fun _ => by rw [hy]; exact h2, fun h => absurd hk h, h3, h4⟩
theorem T.inB_no {l : List SV} {t : Int} (h : inB l t = false) : ¬ In l t := fun e => by rw [inB_iff.2 e] at h; cases h
/-- append of one span to an own slice, as one operation. -/
theorem wp_one {w : World} {o : Oper} {a : Act} {K : Act → World → Prop} {Q : Exit → Act → World → Prop} (s x : Operand)
    (ho : o.op = .call { callee := .builtin .append, args := #[s, x], argTypes := #[29, 29] })
    (base : Nat) (v : Value) (l0 : List SV) (hs : a.eval s = v) (hown : OwnSp w base v l0) (g c : Nat) (p q : Int) (hx : a.eval x = .slice (some ⟨g, 0, none⟩) 1 c) (h0 : w.cell? ⟨g, 0, none⟩ = some (.int .i64 p)) (h1 : w.cell? ⟨g, 1, none⟩ = some (.int .i64 q))
    (hn : l0.length + 1 ≤ 1000000) (hbase : base ≤ w.heap.size)
    (h : ∀ v' w', OwnSp w' base v' (l0 ++ [(p, q)]) → w.grownBy w' v.ownBlock → K (a.put o.dst v') w') : o.wp Tryd.prog a w K Q := by
  obtain ⟨i0, hi, hz0, hz1, hz2⟩ := info_parts info_sp
  refine wp_append_own w s x _ ho base 32 i0 (.agg #[.int .i64 0, .int .i64 0]) 2 16 Tryd.underlying29 hi hz0 hz1 hz2 rfl (by decide) v l0.length (spCells l0) hs hown ⟨g, 0, none⟩ 1 c [.int .i64 p, .int .i64 q] hx rfl ?_ ?_ (by unfold maxLen; omega) (by omega) hbase ?_
  · intro j u hu
    rw [addr_lit, Nat.zero_add]
    match j, hu with
    | 0, hu => simp at hu; subst hu; exact h0
    | 1, hu => simp at hu; subst hu; exact h1
  · intro u hu
    simp at hu
    rcases hu with rfl | rfl <;> rfl
  · intro v' w' h1 h2 _
    refine h v' w' ?_ h2
    unfold OwnSp
    rw [List.length_append, show (spCells (l0 ++ [(p, q)])) = spCells l0 ++ [.int .i64 p, .int .i64 q] from by simp [spCells]]
    exact h1
/-- What region 10 reads. -/
structure RS (w2 : World) (p q : Addr) (x y : Int) (v : World) : Prop where
  c0 : v.cell? p = some (.int .i64 x)
  c1 : v.cell? q = some (.int .i64 y)
  hp : p.block < w2.heap.size
  hq : q.block < w2.heap.size
  d0 : w2.cell? p = some (.int .i64 x)
  d1 : w2.cell? q = some (.int .i64 y)
  bel : Below w2.heap.size w2 v
theorem RS.on {w2 v v' : World} {p q : Addr} {x y : Int} (h : RS w2 p q x y v) (hb : Below w2.heap.size w2 v') : RS w2 p q x y v' :=
  ⟨(hb.cell h.hp).trans h.d0, (hb.cell h.hq).trans h.d1, h.hp, h.hq, h.d0, h.d1, hb⟩
theorem RS.of {w2 v : World} {p q : Addr} {x y : Int} (hp : p.block < w2.heap.size) (hq : q.block < w2.heap.size) (c0 : v.cell? p = some (.int .i64 x)) (c1 : v.cell? q = some (.int .i64 y)) (bel : Below w2.heap.size w2 v) : RS w2 p q x y v :=
  ⟨c0, c1, hp, hq, (bel.cell hp).symm.trans c0, (bel.cell hq).symm.trans c1, bel⟩
theorem RS.drew {w2 v : World} {p q : Addr} {x y : Int} (h : RS w2 p q x y v) : RS w2 p q x y v.drew := h.on h.bel.drew
theorem RS.dn {w2 v : World} {p q : Addr} {x y : Int} (h : RS w2 p q x y v) (n : Nat) : RS w2 p q x y (v.drewN n) := h.on (below_dn h.bel n)
set_option maxHeartbeats 4000000 in
theorem RSet_of (hends : EndsC) : SetC := by
  intro A A2 c c2 m m2 a b w hl hl2 hm hm2 h200 h202 hg hg2
  have HE := Lib.hid (hends A A2 c c2 m m2 a b w hl hl2 hm hm2 h200 h202)
  have HL := Lib.hid hl
  have HL2 := Lib.hid hl2
  have I1 := Lib.hid (fun t w (h : SpIn w w.heap.size A c a) => RIn_any A c m a t w h hm)
  have I2 := Lib.hid (fun t w (h : SpIn w w.heap.size A2 c2 b) => RIn_any A2 c2 m2 b t w h hm2)
  clear hl hl2 hm hm2 hg hg2 hends
  go_enter Tryd.func43, Tryd.ntmps43
  go_wp2_with fail
  refine HE.out.mono ?_
  rintro e w2 ⟨A3, c3, M, L, rfl, hn, hM, hM8, hp, ha, hb', hb⟩
  have HN := Lib.hid hn
  have HM := Lib.hid hM
  have HP := Lib.hid hp
  have Ha := Lib.hid ha
  have Hb := Lib.hid hb'
  have HB := Lib.hid hb
  have hle := hn.le
  have hcm := hn.cap
  unfold maxLen at hcm
  rw [hM] at hle
  clear hn hM hp ha hb' hb HE
  go_wp2_with fail
  go_loopw [6, 7] (fun v i wr => ∃ (k : Nat) (acc : List SV), k ≤ M ∧ i = .int .i64 ((k : Int) + 1) ∧ Hid (SetI w2 a b L k v acc wr)) (fun _ i _ => M - (intOf i).toNat)
  case atStart => exact ⟨0, [], Nat.zero_le _, rfl, Lib.hid (SetI.start HP.out Ha.out)⟩
  case round =>
    obtain ⟨k, acc, hk, rfl, hI⟩ := hrel
    by_cases hlt : k + 1 < M
    · have hkf : k + 1 < L.length := by rw [HM.out]; exact hlt
      have hgap := T.gap_at HP.out hkf
      obtain ⟨ad, rfl, hlb, c0⟩ := (HN.out.below hI.out.bel).cells k (by omega)
      obtain ⟨ad', he, hlb', c1⟩ := (HN.out.below hI.out.bel).cells (k + 1) hkf
      cases he
      obtain ⟨x, hx⟩ : ∃ x, L[k]'(by omega) = x := ⟨_, rfl⟩
      obtain ⟨y, hy⟩ : ∃ y, L[k + 1]'hkf = y := ⟨_, rfl⟩
      have hup := hI.out.upto (by omega)
      rw [hx] at c0 hgap hup
      rw [hy] at c1 hgap
      have Hgap := Lib.hid hgap
      have Hup := Lib.hid hup
      have Hy := Lib.hid hy
      have J1 := Lib.hid (I1.out x wr ((HL.out.on HB.out).below hI.out.bel |>.more hI.out.bel.size))
      have J2 := Lib.hid (I2.out x wr ((HL2.out.on HB.out).below hI.out.bel |>.more hI.out.bel.size))
      have Hskip : Hid (T.inB a x = false ∨ T.inB b x = true → SetI w2 a b L (k + 1) u6 acc wr) := Lib.hid (fun h =>
        SetI.next hkf Hy.out hI.out.own (T.upto_skip Hup.out Ha.out Hb.out Hgap.out.2 Hgap.out.1 (h.elim (fun h => Or.inl (T.inB_no h)) (fun h => Or.inr (T.inB_iff.1 h)))) (by have := hI.out.len; omega) hI.out.bel)
      clear hgap hup hx hy hlb'
      cases hi1 : T.inB a x with
      | false =>
        rw [hi1] at J1 Hskip
        have HW := Lib.hid (Hskip.out (Or.inl rfl))
        clear Hskip
        go_wp2_with fail
        refine J1.out.mono ?_
        rintro e w' ⟨rfl, rfl⟩
        go_wp2_with fail
        go_roundw
        case rel => exact ⟨k + 1, acc, by omega, by go_num, HW⟩
        case measure => simp [intOf]; omega
      | true =>
        rw [hi1] at J1
        cases hi2 : T.inB b x with
        | true =>
          rw [hi2] at J2 Hskip
          have HW := Lib.hid (Hskip.out (Or.inr rfl))
          clear Hskip
          go_wp2_with fail
          refine J1.out.mono ?_
          rintro e w' ⟨rfl, rfl⟩
          go_wp2_with fail
          refine J2.out.mono ?_
          rintro e w' ⟨rfl, rfl⟩
          go_wp2_with fail
          go_roundw
          case rel => exact ⟨k + 1, acc, by omega, by go_num, HW⟩
          case measure => simp [intOf]; omega
        | false =>
          rw [hi2] at J2
          have HNb := Lib.hid (T.inB_no hi2)
          have HIa := Lib.hid (T.inB_iff.1 hi1)
          clear Hskip hi1 hi2
          go_wp2_with fail
          refine J1.out.mono ?_
          rintro e w' ⟨rfl, rfl⟩
          go_wp2_with fail
          refine J2.out.mono ?_
          rintro e w' ⟨rfl, rfl⟩
          have HOw := Lib.hid hI.out.own
          have HLn := Lib.hid hI.out.len
          have HBl := Lib.hid hI.out.bel
          have C0 := Lib.hid c0
          have C1 := Lib.hid c1
          clear hI J1 J2 I1 I2
          rcases List.eq_nil_or_concat acc with hnil | ⟨init, lst, hini⟩
          · subst hnil
            obtain ⟨Av, cv, he, hsv⟩ := HOw.out.reads (fun s hs => by cases hs)
            have he0 : u6 = .slice Av 0 cv := he
            subst he0
            have hcv : cv ≤ 9223372036854775807 := by have := hsv.cap; unfold maxLen at this; omega
            clear hsv he
            go_wp2_with fail
            go_quiet (fail)
            go_wp2_with fail
            have q1 : IntKind.i64.wrap (k : Int) = k := IntWalk.i64_in _ (by omega)
            have q2 : (k : Int) < (M : Int) := by omega
            have q3 : (0 : Int) ≤ (k : Int) := by omega
            have q4 : (k : Int) + 1 < (M : Int) := by omega
            have q5 : (0 : Int) ≤ (k : Int) + 1 := by omega
            have q6 : ((k : Int) + 1).toNat = k + 1 := by omega
            have q7 : IntKind.i64.wrap ((k : Int) + 1 - 1) = k := IntWalk.i64_in _ (by omega) |>.trans (by omega)
            have hS0 : RS w2 (ad.add k) ⟨ad.block, ad.off + (k + 1), none⟩ x y wr := RS.of (by rw [addr_block]; exact hlb) hlb C0.out (by have := C1.out; unfold Addr.add at this; rwa [if_neg (Nat.succ_ne_zero k)] at this) HBl.out
            have HPush := Lib.hid (T.upto_push Hup.out Ha.out Hb.out Hgap.out.2 Hgap.out.1 HIa.out HNb.out (fun s hs => by cases hs))
            refine wp_region_noPanic ?_
            refine wp_region_held_drew (S := RS w2 (ad.add k) ⟨ad.block, ad.off + (k + 1), none⟩ x y) (by kernel_rfl) (hS0.dn _).drew (fun hHeld => ?_)
            refine wpAnyH_take (i := 0) (oi := ({ dst := some 61, op := Op.move (Operand.tmp 6), type := 29, pos := "ref.go:135", after := #[], guard := none } : Oper)) (v := ?_) rfl (by kernel_rfl) (by kernel_rfl) (by kernel_rfl) (fun _ _ _ h => h) (Or.inl ⟨by rfl, ?_⟩) (by assumption) ?_
            rotate_left 1
            · intro w hSw
              have s0 := hSw.c0
              have s1 := hSw.c1
              go_simp
              (try with_reducible rfl)
            (try simp only [Act.put, List.setIfInBounds_toArray, List.set_cons_zero, List.set_cons_succ])
            refine wpAnyH_take (i := 1) (oi := ({ dst := some 62, op := Op.move (Operand.tmp 5), type := 46, pos := "ref.go:135", after := #[], guard := none } : Oper)) (v := ?_) rfl (by kernel_rfl) (by kernel_rfl) (by kernel_rfl) (fun _ _ _ h => h) (Or.inl ⟨by rfl, ?_⟩) (by assumption) ?_
            rotate_left 1
            · intro w hSw
              have s0 := hSw.c0
              have s1 := hSw.c1
              go_simp
              (try with_reducible rfl)
            (try simp only [Act.put, List.setIfInBounds_toArray, List.set_cons_zero, List.set_cons_succ])
            refine wpAnyH_take (i := 2) (oi := ({ dst := some 63, op := Op.move (Operand.tmp 7), type := 3, pos := "ref.go:135", after := #[], guard := none } : Oper)) (v := ?_) rfl (by kernel_rfl) (by kernel_rfl) (by kernel_rfl) (fun _ _ _ h => h) (Or.inl ⟨by rfl, ?_⟩) (by assumption) ?_
            rotate_left 1
            · intro w hSw
              have s0 := hSw.c0
              have s1 := hSw.c1
              go_simp
              (try with_reducible rfl)
            (try simp only [Act.put, List.setIfInBounds_toArray, List.set_cons_zero, List.set_cons_succ])
            refine wpAnyH_take (i := 3) (oi := ({ dst := some 64, op := Op.binOp BinOp.sub 3 (Operand.tmp 63) (Operand.const (Value.int IntKind.i64 1)) 3, type := 3, pos := "ref.go:135", after := #[{ on := 2, ground := Ground.data }], guard := none } : Oper)) (v := ?_) rfl (by kernel_rfl) (by kernel_rfl) (by kernel_rfl) (fun _ _ _ h => h) (Or.inl ⟨by rfl, ?_⟩) (by assumption) ?_
            rotate_left 1
            · intro w hSw
              have s0 := hSw.c0
              have s1 := hSw.c1
              go_simp
              (try with_reducible rfl)
            (try simp only [Act.put, List.setIfInBounds_toArray, List.set_cons_zero, List.set_cons_succ])
            refine wpAnyH_take (i := 4) (oi := ({ dst := some 65, op := Op.indexAddr 46 (Operand.tmp 62) (Operand.tmp 64), type := 0, pos := "ref.go:135", after := #[{ on := 1, ground := Ground.data }, { on := 3, ground := Ground.data }], guard := none } : Oper)) (v := ?_) rfl (by kernel_rfl) (by kernel_rfl) (by kernel_rfl) (fun _ _ _ h => h) (Or.inl ⟨by rfl, ?_⟩) (by assumption) ?_
            rotate_left 1
            · intro w hSw
              have s0 := hSw.c0
              have s1 := hSw.c1
              go_simp
              (try with_reducible rfl)
            (try simp only [Act.put, List.setIfInBounds_toArray, List.set_cons_zero, List.set_cons_succ])
            refine wpAnyH_take (i := 5) (oi := ({ dst := some 66, op := Op.load 2 (Operand.tmp 65), type := 2, pos := "ref.go:135", after := #[{ on := 4, ground := Ground.data }], guard := none } : Oper)) (v := ?_) rfl (by kernel_rfl) (by kernel_rfl) (by kernel_rfl) (fun _ _ _ h => h) (Or.inl ⟨by rfl, ?_⟩) (by assumption) ?_
            rotate_left 1
            · intro w hSw
              have s0 := hSw.c0
              have s1 := hSw.c1
              go_simp
              (try with_reducible rfl)
            (try simp only [Act.put, List.setIfInBounds_toArray, List.set_cons_zero, List.set_cons_succ])
            refine wpAnyH_take (i := 6) (oi := ({ dst := some 67, op := Op.move (Operand.tmp 5), type := 46, pos := "ref.go:135", after := #[], guard := none } : Oper)) (v := ?_) rfl (by kernel_rfl) (by kernel_rfl) (by kernel_rfl) (fun _ _ _ h => h) (Or.inl ⟨by rfl, ?_⟩) (by assumption) ?_
            rotate_left 1
            · intro w hSw
              have s0 := hSw.c0
              have s1 := hSw.c1
              go_simp
              (try with_reducible rfl)
            (try simp only [Act.put, List.setIfInBounds_toArray, List.set_cons_zero, List.set_cons_succ])
            refine wpAnyH_take (i := 7) (oi := ({ dst := some 68, op := Op.move (Operand.tmp 7), type := 3, pos := "ref.go:135", after := #[], guard := none } : Oper)) (v := ?_) rfl (by kernel_rfl) (by kernel_rfl) (by kernel_rfl) (fun _ _ _ h => h) (Or.inl ⟨by rfl, ?_⟩) (by assumption) ?_
            rotate_left 1
            · intro w hSw
              have s0 := hSw.c0
              have s1 := hSw.c1
              go_simp
              (try with_reducible rfl)
            (try simp only [Act.put, List.setIfInBounds_toArray, List.set_cons_zero, List.set_cons_succ])
            refine wpAnyH_take (i := 8) (oi := ({ dst := some 69, op := Op.indexAddr 46 (Operand.tmp 67) (Operand.tmp 68), type := 0, pos := "ref.go:135", after := #[{ on := 6, ground := Ground.data }, { on := 7, ground := Ground.data }], guard := none } : Oper)) (v := ?_) rfl (by kernel_rfl) (by kernel_rfl) (by kernel_rfl) (fun _ _ _ h => h) (Or.inl ⟨by rfl, ?_⟩) (by assumption) ?_
            rotate_left 1
            · intro w hSw
              have s0 := hSw.c0
              have s1 := hSw.c1
              go_simp
              (try with_reducible rfl)
            (try simp only [Act.put, List.setIfInBounds_toArray, List.set_cons_zero, List.set_cons_succ])
            refine wpAnyH_take (i := 9) (oi := ({ dst := some 70, op := Op.load 2 (Operand.tmp 69), type := 2, pos := "ref.go:135", after := #[{ on := 8, ground := Ground.data }], guard := none } : Oper)) (v := ?_) rfl (by kernel_rfl) (by kernel_rfl) (by kernel_rfl) (fun _ _ _ h => h) (Or.inl ⟨by rfl, ?_⟩) (by assumption) ?_
            rotate_left 1
            · intro w hSw
              have s0 := hSw.c0
              have s1 := hSw.c1
              go_simp
              (try with_reducible rfl)
            (try simp only [Act.put, List.setIfInBounds_toArray, List.set_cons_zero, List.set_cons_succ])
            refine wpAnyH_take (i := 10) (oi := ({ dst := some 71, op := Op.build 32 #[(0, Operand.tmp 66), (1, Operand.tmp 70)], type := 32, pos := "ref.go:135", after := #[{ on := 5, ground := Ground.data }, { on := 9, ground := Ground.data }], guard := none } : Oper)) (v := ?_) rfl (by kernel_rfl) (by kernel_rfl) (by kernel_rfl) (fun _ _ _ h => h) (Or.inl ⟨by rfl, ?_⟩) (by assumption) ?_
            rotate_left 1
            · intro w hSw
              have s0 := hSw.c0
              have s1 := hSw.c1
              go_simp
              (try with_reducible rfl)
            (try simp only [Act.put, List.setIfInBounds_toArray, List.set_cons_zero, List.set_cons_succ])
            refine wpAnyH_ready (rs := [11]) (by kernel_rfl) (by simp) ?_
            refine AllReadyH.cons (o := ({ dst := some 72, op := Op.buildSlice 29 1 #[(0, Operand.tmp 71)], type := 29, pos := "ref.go:135", after := #[{ on := 10, ground := Ground.data }], guard := none } : Oper)) rfl (fun K hK => ?_) AllReadyH.nil
            go_simp
            have hOA : OwnSp (wr.drewN (nq + 1)) w2.heap.size (.slice Av 0 cv) ([] : List SV) := HOw.out.kept (below_dn (Below.refl _ _) _)
            have hBA : Below w2.heap.size w2 (wr.drewN (nq + 1)) := below_dn HBl.out _
            have hBA2 : Below w2.heap.size w2 ((wr.drewN (nq + 1)).alloc (.cells #[.int .i64 x, .int .i64 y] 32)) := hBA.alloc hBA.size _
            refine hK.out _ _ (hHeld.on hBA2) (fun _ => ?_)
            clear hK K
            (try simp only [Act.put, List.setIfInBounds_toArray, List.set_cons_zero, List.set_cons_succ])
            refine wpAnyH_ready (rs := [12]) (by kernel_rfl) (by simp) ?_
            refine AllReadyH.cons (o := ({ dst := some 73, op := Op.call { callee := Callee.builtin Builtin.append, args := #[Operand.tmp 61, Operand.tmp 72], argTypes := #[29, 29] }, type := 29, pos := "ref.go:135", after := #[{ on := 0, ground := Ground.data }, { on := 11, ground := Ground.data }], guard := none } : Oper)) rfl (fun K hK => ?_) AllReadyH.nil
            refine wp_one _ _ rfl w2.heap.size (.slice Av 0 cv) ([] : List SV) rfl (hOA.kept (below_new _ _)) (wr.drewN (nq + 1)).heap.size 1 x y rfl ?_ ?_ ?_ ?_ ?_
            rotate_left 4
            · intro v3 w3 hown3 hgr
              have hb3 : Below w2.heap.size w2 w3 := hBA2.grown hgr hBA2.size (fun j hj => (hOA.lt j hj).1)
              have HO3 := Lib.hid hown3
              have HB3 := Lib.hid hb3
              refine hK.out _ _ (hHeld.on hb3) (fun _ => ?_)
              clear hK K hown3 hgr hOA hBA hBA2
              (try simp only [Act.put, List.setIfInBounds_toArray, List.set_cons_zero, List.set_cons_succ])
              refine wpAnyH_take (i := 13) (oi := ({ dst := some 6, op := Op.assign (Operand.tmp 73), type := 29, pos := "ref.go:135", after := #[{ on := 12, ground := Ground.data }, { on := 12, ground := Ground.chain }, { on := 0, ground := Ground.phase }, { on := 1, ground := Ground.phase }, { on := 2, ground := Ground.phase }, { on := 3, ground := Ground.phase }, { on := 4, ground := Ground.phase }, { on := 5, ground := Ground.phase }, { on := 6, ground := Ground.phase }, { on := 7, ground := Ground.phase }, { on := 8, ground := Ground.phase }, { on := 9, ground := Ground.phase }, { on := 10, ground := Ground.phase }, { on := 11, ground := Ground.phase }, { on := 12, ground := Ground.phase }], guard := none } : Oper)) (v := ?_) rfl (by kernel_rfl) (by kernel_rfl) (by kernel_rfl) (fun _ _ _ h => h) (Or.inl ⟨by rfl, ?_⟩) (by assumption) ?_
              rotate_left 1
              · intro w hSw
                have s0 := hSw.c0
                have s1 := hSw.c1
                go_simp
                (try with_reducible rfl)
              (try simp only [Act.put, List.setIfInBounds_toArray, List.set_cons_zero, List.set_cons_succ])
              refine wpAnyH_done (by kernel_rfl) ?_ _
              refine NoPanic.normal ?_
              have HW : Hid (SetI w2 a b L (k + 1) v3 (([] : List SV) ++ [(x, y)]) w3) := Lib.hid (SetI.next hkf Hy.out HO3.out HPush.out (by have := HLn.out; rw [List.length_append]; simp only [List.length_append, List.length_cons, List.length_nil] at this ⊢; omega) HB3.out)
              clear hHeld hS0 HPush HO3 HB3
              go_wp2_with fail
              go_roundw
              case rel => exact ⟨k + 1, _, by omega, by go_num, HW⟩
              case measure => simp [intOf]; omega
            · rw [cell_of_row _ _ _ _ _ _ (World.alloc_heap_new _ _)]; rfl
            · rw [cell_of_row _ _ _ _ _ _ (World.alloc_heap_new _ _)]; rfl
            · have := HLn.out; simp only [List.length_append, List.length_cons, List.length_nil] at this ⊢; omega
            · exact hBA2.size
          · obtain ⟨f, e⟩ := lst
            rw [List.concat_eq_append] at hini
            subst hini
            rcases HOw.out.2 with ⟨_, h0⟩ | ⟨g, cap, cur, e0, hgb, -, hn1, hn2, -, -⟩
            · simp at h0
            have hlen : (init ++ [(f, e)]).length = init.length + 1 := by simp
            rw [hlen] at e0 hn1
            subst e0
            unfold maxLen at hn2
            have hlast := (last_cell HOw.out).1
            have hfro := (last_cell HOw.out).2
            have HLn2 := Lib.hid (show init.length + 1 ≤ k by have := HLn.out; rw [hlen] at this; exact this)
            obtain ⟨n0, hn0⟩ : ∃ n0, init.length = n0 := ⟨_, rfl⟩
            have Hn0 := Lib.hid hn0
            rw [hn0] at hn1 hlast hfro HLn2 HOw ⊢
            clear hlen hn0
            have q1 : IntKind.i64.wrap (k : Int) = k := IntWalk.i64_in _ (by omega)
            have q2 : (k : Int) < (M : Int) := by omega
            have q3 : (0 : Int) ≤ (k : Int) := by omega
            have q4 : (k : Int) + 1 < (M : Int) := by omega
            have q5 : (0 : Int) ≤ (k : Int) + 1 := by omega
            have q6 : ((k : Int) + 1).toNat = k + 1 := by omega
            have q7 : IntKind.i64.wrap ((k : Int) + 1 - 1) = k := IntWalk.i64_in _ (by omega) |>.trans (by omega)
            have c1' : wr.cell? ⟨ad.block, ad.off + (k + 1), none⟩ = some (.int .i64 y) := by have := C1.out; unfold Addr.add at this; rwa [if_neg (Nat.succ_ne_zero k)] at this
            by_cases hex : e = x
            · subst hex
              have HGrow := Lib.hid (T.upto_grow Hup.out Ha.out Hb.out Hgap.out.2 Hgap.out.1 HIa.out HNb.out)
              go_wp2_with fail
              go_quiet (fail)
              go_wp2_with fail
              have HO3 := OwnSp.setLast (z := y) (HOw.out.kept (below_dn (Below.refl _ _) nq))
              rw [Hn0.out] at HO3
              have HW : Hid (SetI w2 a b L (k + 1) (.slice (some ⟨g, 0, none⟩) (n0 + 1) cap) (init ++ [(f, y)]) ((wr.drewN nq).setCell ⟨g, n0 * 2 + 1, none⟩ (.int .i64 y))) := Lib.hid (SetI.next hkf Hy.out HO3 HGrow.out (by have := HLn2.out; rw [List.length_append, Hn0.out]; simp only [List.length_cons, List.length_nil]; omega) ((below_dn HBl.out _).setCell (p := ⟨g, n0 * 2 + 1, none⟩) hgb _))
              clear HO3
              go_roundw
              case rel => exact ⟨k + 1, _, by omega, by go_num, HW⟩
              case measure => simp [intOf]; omega
            · have hS0 : RS w2 (ad.add k) ⟨ad.block, ad.off + (k + 1), none⟩ x y wr := RS.of (by rw [addr_block]; exact hlb) hlb C0.out (by have := C1.out; unfold Addr.add at this; rwa [if_neg (Nat.succ_ne_zero k)] at this) HBl.out
              have HPush := Lib.hid (T.upto_push Hup.out Ha.out Hb.out Hgap.out.2 Hgap.out.1 HIa.out HNb.out (fun s hs => by
                rcases List.mem_append.1 hs with h | h
                · have h1 := (List.pairwise_append.1 Hup.out.asc.apart).2.2 s h (f, e) (by simp)
                  have h2 := Hup.out.asc.some_ (f, e) (by simp)
                  have h3 := T.upto_ends Hup.out (f, e) (by simp)
                  simp only at h1 h2 h3
                  omega
                · rw [List.mem_singleton.1 h]; exact hex))
              go_wp2_with fail
              go_quiet (fail)
              go_wp2_with fail
              refine wp_region_noPanic ?_
              refine wp_region_held_drew (S := RS w2 (ad.add k) ⟨ad.block, ad.off + (k + 1), none⟩ x y) (by kernel_rfl) (hS0.dn _).drew (fun hHeld => ?_)
              refine wpAnyH_take (i := 0) (oi := ({ dst := some 61, op := Op.move (Operand.tmp 6), type := 29, pos := "ref.go:135", after := #[], guard := none } : Oper)) (v := ?_) rfl (by kernel_rfl) (by kernel_rfl) (by kernel_rfl) (fun _ _ _ h => h) (Or.inl ⟨by rfl, ?_⟩) (by assumption) ?_
              rotate_left 1
              · intro w hSw
                have s0 := hSw.c0
                have s1 := hSw.c1
                go_simp
                (try with_reducible rfl)
              (try simp only [Act.put, List.setIfInBounds_toArray, List.set_cons_zero, List.set_cons_succ])
              refine wpAnyH_take (i := 1) (oi := ({ dst := some 62, op := Op.move (Operand.tmp 5), type := 46, pos := "ref.go:135", after := #[], guard := none } : Oper)) (v := ?_) rfl (by kernel_rfl) (by kernel_rfl) (by kernel_rfl) (fun _ _ _ h => h) (Or.inl ⟨by rfl, ?_⟩) (by assumption) ?_
              rotate_left 1
              · intro w hSw
                have s0 := hSw.c0
                have s1 := hSw.c1
                go_simp
                (try with_reducible rfl)
              (try simp only [Act.put, List.setIfInBounds_toArray, List.set_cons_zero, List.set_cons_succ])
              refine wpAnyH_take (i := 2) (oi := ({ dst := some 63, op := Op.move (Operand.tmp 7), type := 3, pos := "ref.go:135", after := #[], guard := none } : Oper)) (v := ?_) rfl (by kernel_rfl) (by kernel_rfl) (by kernel_rfl) (fun _ _ _ h => h) (Or.inl ⟨by rfl, ?_⟩) (by assumption) ?_
              rotate_left 1
              · intro w hSw
                have s0 := hSw.c0
                have s1 := hSw.c1
                go_simp
                (try with_reducible rfl)
              (try simp only [Act.put, List.setIfInBounds_toArray, List.set_cons_zero, List.set_cons_succ])
              refine wpAnyH_take (i := 3) (oi := ({ dst := some 64, op := Op.binOp BinOp.sub 3 (Operand.tmp 63) (Operand.const (Value.int IntKind.i64 1)) 3, type := 3, pos := "ref.go:135", after := #[{ on := 2, ground := Ground.data }], guard := none } : Oper)) (v := ?_) rfl (by kernel_rfl) (by kernel_rfl) (by kernel_rfl) (fun _ _ _ h => h) (Or.inl ⟨by rfl, ?_⟩) (by assumption) ?_
              rotate_left 1
              · intro w hSw
                have s0 := hSw.c0
                have s1 := hSw.c1
                go_simp
                (try with_reducible rfl)
              (try simp only [Act.put, List.setIfInBounds_toArray, List.set_cons_zero, List.set_cons_succ])
              refine wpAnyH_take (i := 4) (oi := ({ dst := some 65, op := Op.indexAddr 46 (Operand.tmp 62) (Operand.tmp 64), type := 0, pos := "ref.go:135", after := #[{ on := 1, ground := Ground.data }, { on := 3, ground := Ground.data }], guard := none } : Oper)) (v := ?_) rfl (by kernel_rfl) (by kernel_rfl) (by kernel_rfl) (fun _ _ _ h => h) (Or.inl ⟨by rfl, ?_⟩) (by assumption) ?_
              rotate_left 1
              · intro w hSw
                have s0 := hSw.c0
                have s1 := hSw.c1
                go_simp
                (try with_reducible rfl)
              (try simp only [Act.put, List.setIfInBounds_toArray, List.set_cons_zero, List.set_cons_succ])
              refine wpAnyH_take (i := 5) (oi := ({ dst := some 66, op := Op.load 2 (Operand.tmp 65), type := 2, pos := "ref.go:135", after := #[{ on := 4, ground := Ground.data }], guard := none } : Oper)) (v := ?_) rfl (by kernel_rfl) (by kernel_rfl) (by kernel_rfl) (fun _ _ _ h => h) (Or.inl ⟨by rfl, ?_⟩) (by assumption) ?_
              rotate_left 1
              · intro w hSw
                have s0 := hSw.c0
                have s1 := hSw.c1
                go_simp
                (try with_reducible rfl)
              (try simp only [Act.put, List.setIfInBounds_toArray, List.set_cons_zero, List.set_cons_succ])
              refine wpAnyH_take (i := 6) (oi := ({ dst := some 67, op := Op.move (Operand.tmp 5), type := 46, pos := "ref.go:135", after := #[], guard := none } : Oper)) (v := ?_) rfl (by kernel_rfl) (by kernel_rfl) (by kernel_rfl) (fun _ _ _ h => h) (Or.inl ⟨by rfl, ?_⟩) (by assumption) ?_
              rotate_left 1
              · intro w hSw
                have s0 := hSw.c0
                have s1 := hSw.c1
                go_simp
                (try with_reducible rfl)
              (try simp only [Act.put, List.setIfInBounds_toArray, List.set_cons_zero, List.set_cons_succ])
              refine wpAnyH_take (i := 7) (oi := ({ dst := some 68, op := Op.move (Operand.tmp 7), type := 3, pos := "ref.go:135", after := #[], guard := none } : Oper)) (v := ?_) rfl (by kernel_rfl) (by kernel_rfl) (by kernel_rfl) (fun _ _ _ h => h) (Or.inl ⟨by rfl, ?_⟩) (by assumption) ?_
              rotate_left 1
              · intro w hSw
                have s0 := hSw.c0
                have s1 := hSw.c1
                go_simp
                (try with_reducible rfl)
              (try simp only [Act.put, List.setIfInBounds_toArray, List.set_cons_zero, List.set_cons_succ])
              refine wpAnyH_take (i := 8) (oi := ({ dst := some 69, op := Op.indexAddr 46 (Operand.tmp 67) (Operand.tmp 68), type := 0, pos := "ref.go:135", after := #[{ on := 6, ground := Ground.data }, { on := 7, ground := Ground.data }], guard := none } : Oper)) (v := ?_) rfl (by kernel_rfl) (by kernel_rfl) (by kernel_rfl) (fun _ _ _ h => h) (Or.inl ⟨by rfl, ?_⟩) (by assumption) ?_
              rotate_left 1
              · intro w hSw
                have s0 := hSw.c0
                have s1 := hSw.c1
                go_simp
                (try with_reducible rfl)
              (try simp only [Act.put, List.setIfInBounds_toArray, List.set_cons_zero, List.set_cons_succ])
              refine wpAnyH_take (i := 9) (oi := ({ dst := some 70, op := Op.load 2 (Operand.tmp 69), type := 2, pos := "ref.go:135", after := #[{ on := 8, ground := Ground.data }], guard := none } : Oper)) (v := ?_) rfl (by kernel_rfl) (by kernel_rfl) (by kernel_rfl) (fun _ _ _ h => h) (Or.inl ⟨by rfl, ?_⟩) (by assumption) ?_
              rotate_left 1
              · intro w hSw
                have s0 := hSw.c0
                have s1 := hSw.c1
                go_simp
                (try with_reducible rfl)
              (try simp only [Act.put, List.setIfInBounds_toArray, List.set_cons_zero, List.set_cons_succ])
              refine wpAnyH_take (i := 10) (oi := ({ dst := some 71, op := Op.build 32 #[(0, Operand.tmp 66), (1, Operand.tmp 70)], type := 32, pos := "ref.go:135", after := #[{ on := 5, ground := Ground.data }, { on := 9, ground := Ground.data }], guard := none } : Oper)) (v := ?_) rfl (by kernel_rfl) (by kernel_rfl) (by kernel_rfl) (fun _ _ _ h => h) (Or.inl ⟨by rfl, ?_⟩) (by assumption) ?_
              rotate_left 1
              · intro w hSw
                have s0 := hSw.c0
                have s1 := hSw.c1
                go_simp
                (try with_reducible rfl)
              (try simp only [Act.put, List.setIfInBounds_toArray, List.set_cons_zero, List.set_cons_succ])
              refine wpAnyH_ready (rs := [11]) (by kernel_rfl) (by simp) ?_
              refine AllReadyH.cons (o := ({ dst := some 72, op := Op.buildSlice 29 1 #[(0, Operand.tmp 71)], type := 29, pos := "ref.go:135", after := #[{ on := 10, ground := Ground.data }], guard := none } : Oper)) rfl (fun K hK => ?_) AllReadyH.nil
              go_simp
              have hOA : OwnSp (wr.drewN (nq + 1)) w2.heap.size (.slice (some ⟨g, 0, none⟩) (n0 + 1) cap) (init ++ [(f, e)]) := HOw.out.kept (below_dn (Below.refl _ _) _)
              have hBA : Below w2.heap.size w2 (wr.drewN (nq + 1)) := below_dn HBl.out _
              have hBA2 : Below w2.heap.size w2 ((wr.drewN (nq + 1)).alloc (.cells #[.int .i64 x, .int .i64 y] 32)) := hBA.alloc hBA.size _
              refine hK.out _ _ (hHeld.on hBA2) (fun _ => ?_)
              clear hK K
              (try simp only [Act.put, List.setIfInBounds_toArray, List.set_cons_zero, List.set_cons_succ])
              refine wpAnyH_ready (rs := [12]) (by kernel_rfl) (by simp) ?_
              refine AllReadyH.cons (o := ({ dst := some 73, op := Op.call { callee := Callee.builtin Builtin.append, args := #[Operand.tmp 61, Operand.tmp 72], argTypes := #[29, 29] }, type := 29, pos := "ref.go:135", after := #[{ on := 0, ground := Ground.data }, { on := 11, ground := Ground.data }], guard := none } : Oper)) rfl (fun K hK => ?_) AllReadyH.nil
              refine wp_one _ _ rfl w2.heap.size (.slice (some ⟨g, 0, none⟩) (n0 + 1) cap) (init ++ [(f, e)]) rfl (hOA.kept (below_new _ _)) (wr.drewN (nq + 1)).heap.size 1 x y rfl ?_ ?_ ?_ ?_ ?_
              rotate_left 4
              · intro v3 w3 hown3 hgr
                have hb3 : Below w2.heap.size w2 w3 := hBA2.grown hgr hBA2.size (fun j hj => (hOA.lt j hj).1)
                have HO3 := Lib.hid hown3
                have HB3 := Lib.hid hb3
                refine hK.out _ _ (hHeld.on hb3) (fun _ => ?_)
                clear hK K hown3 hgr hOA hBA hBA2
                (try simp only [Act.put, List.setIfInBounds_toArray, List.set_cons_zero, List.set_cons_succ])
                refine wpAnyH_take (i := 13) (oi := ({ dst := some 6, op := Op.assign (Operand.tmp 73), type := 29, pos := "ref.go:135", after := #[{ on := 12, ground := Ground.data }, { on := 12, ground := Ground.chain }, { on := 0, ground := Ground.phase }, { on := 1, ground := Ground.phase }, { on := 2, ground := Ground.phase }, { on := 3, ground := Ground.phase }, { on := 4, ground := Ground.phase }, { on := 5, ground := Ground.phase }, { on := 6, ground := Ground.phase }, { on := 7, ground := Ground.phase }, { on := 8, ground := Ground.phase }, { on := 9, ground := Ground.phase }, { on := 10, ground := Ground.phase }, { on := 11, ground := Ground.phase }, { on := 12, ground := Ground.phase }], guard := none } : Oper)) (v := ?_) rfl (by kernel_rfl) (by kernel_rfl) (by kernel_rfl) (fun _ _ _ h => h) (Or.inl ⟨by rfl, ?_⟩) (by assumption) ?_
                rotate_left 1
                · intro w hSw
                  have s0 := hSw.c0
                  have s1 := hSw.c1
                  go_simp
                  (try with_reducible rfl)
                (try simp only [Act.put, List.setIfInBounds_toArray, List.set_cons_zero, List.set_cons_succ])
                refine wpAnyH_done (by kernel_rfl) ?_ _
                refine NoPanic.normal ?_
                have HW : Hid (SetI w2 a b L (k + 1) v3 ((init ++ [(f, e)]) ++ [(x, y)]) w3) := Lib.hid (SetI.next hkf Hy.out HO3.out HPush.out (by have := HLn.out; rw [List.length_append]; simp only [List.length_append, List.length_cons, List.length_nil] at this ⊢; omega) HB3.out)
                clear hHeld hS0 HPush HO3 HB3
                go_wp2_with fail
                go_roundw
                case rel => exact ⟨k + 1, _, by omega, by go_num, HW⟩
                case measure => simp [intOf]; omega
              · rw [cell_of_row _ _ _ _ _ _ (World.alloc_heap_new _ _)]; rfl
              · rw [cell_of_row _ _ _ _ _ _ (World.alloc_heap_new _ _)]; rfl
              · have := HLn.out; simp only [List.length_append, List.length_cons, List.length_nil] at this ⊢; omega
              · exact hBA2.size
    · have HF := Lib.hid (hI.out.last HP.out Ha.out (by rw [HM.out]; exact hlt))
      have HO := Lib.hid hI.out.own
      have HB2 := Lib.hid (bt HB.out HB.out.size hI.out.bel)
      have HBs := Lib.hid HB.out.size
      clear hI
      go_wp2_with fail
      go_ret
      exact ⟨_, acc, rfl, HO.out.mono HBs.out, HF.out, HB2.out⟩
end Go.Proofs.YtnehllkklmdpfaaDoor
