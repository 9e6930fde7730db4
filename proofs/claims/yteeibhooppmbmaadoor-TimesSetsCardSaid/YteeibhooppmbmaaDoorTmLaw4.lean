/- The walk of TimesSets. -/
import Derived.Test.YteeibhooppmbmaaDoorTmFar
import Derived.OrdersHeld
import Derived.Deep.RegionHeld3
namespace Go.Proofs.YteeibhooppmbmaaDoor
open Go.RowKit
open T (SV)
set_option linter.unusedSimpArgs false
set_option maxRecDepth 100000
/-- What a round of TimesSets reads: a span, and the end of the one before. -/
structure SS (B : World) (p q : Addr) (x y z : Int) (W : World) : Prop where
  h0 : p.block < B.heap.size
  c0 : W.cell? p = some (.int .i64 x)
  c1 : W.cell? ⟨p.block, p.off + 1, none⟩ = some (.int .i64 y)
  hq : q.block < B.heap.size
  c2 : W.cell? ⟨q.block, q.off + 1, none⟩ = some (.int .i64 z)
  bel : Below B.heap.size B W
theorem SS.drew {B W : World} {p q : Addr} {x y z : Int} (h : SS B p q x y z W) : SS B p q x y z W.drew := ⟨h.h0, h.c0, h.c1, h.hq, h.c2, h.bel.drew⟩
theorem SS.on {B W W' : World} {p q : Addr} {x y z : Int} (h : SS B p q x y z W) (hb : Below W.heap.size W W') : SS B p q x y z W' :=
  have hs := h.bel.size
  have h0 := h.h0
  have hq := h.hq
  ⟨h.h0, (hb.cell (p := p) (by omega)).trans h.c0, (hb.cell (p := ⟨p.block, p.off + 1, none⟩) (by show p.block < _; omega)).trans h.c1, h.hq, (hb.cell (p := ⟨q.block, q.off + 1, none⟩) (by show q.block < _; omega)).trans h.c2, bt h.bel hs hb⟩
set_option linter.unusedVariables false in
set_option maxHeartbeats 8000000 in
theorem sets_main (A A2 : Option Addr) (c c2 m m2 : Nat) (a b : List SV) (t : Int) (w : World) (hT : Tab w) (ha : SpIn w w.heap.size A c a) (hb : SpIn w w.heap.size A2 c2 b) (ham : a.length = m) (hbm : b.length = m2) (hf : T.farV m = false) (hf2 : T.farV m2 = false) (h60 : m ≤ 60) (h602 : m2 ≤ 60) (hga : T.Good a) (hgb : T.Good b) :
    Calls Tryd.prog 8 #[.slice A m c, .slice A2 m2 c2, .int .i64 t] w fun e w' => e = .returned (.bool true) ∧ Below w.heap.size w w' := by
  have HT := Lib.hid hT
  have HA := Lib.hid ha
  have HB := Lib.hid hb
  have Ham := Lib.hid ham
  have Hbm := Lib.hid hbm
  have HGa := Lib.hid hga
  have HGb := Lib.hid hgb
  have F1 := Lib.hid (fun w => far_any A c m w)
  have F2 := Lib.hid (fun w => far_any A2 c2 m2 w)
  rw [hf] at F1
  rw [hf2] at F2
  clear hT ha hb ham hbm hga hgb hf hf2
  go_enter Tryd.func8, Tryd.ntmps8
  go_wp2_with fail
  refine (F1.out _).mono ?_
  rintro e w' ⟨rfl, rfl⟩
  go_wp2_with fail
  refine (F2.out _).mono ?_
  rintro e w' ⟨rfl, rfl⟩
  go_wp2_with fail
  refine (Union_any A c m a w HA.out Ham.out).mono ?_
  rintro e w1 ⟨v1, u, rfl, hown, hc, _, _, hb1⟩
  have e1 := T.listE_of (by omega : m ≤ 200) HGa.out
  have hcu := hc e1
  have hgu := hcu.good HGa.out.within
  have hlu := T.canon_len_union hcu
  rw [e1]
  obtain ⟨Au, cu, rfl, hsu⟩ := hown.reads hgu.nums
  have HCu := Lib.hid hcu
  have HGu := Lib.hid hgu
  have HSu := Lib.hid hsu
  have HA1 := Lib.hid (HA.out.on hb1)
  have HB1 := Lib.hid (HB.out.on hb1)
  obtain ⟨mu, hmu⟩ : ∃ mu, u.length = mu := ⟨_, rfl⟩
  have Hmu := Lib.hid hmu
  rw [hmu, Ham.out] at hlu
  have hleu := hsu.le
  have hcmu := hsu.cap
  unfold maxLen at hcmu
  rw [hmu] at hleu ⊢
  clear hown hc hcu hgu hsu hmu e1 F1 F2
  go_wp2_with fail
  refine (Minus_good HA1.out HB1.out Ham.out Hbm.out (by omega) (by omega) HGa.out HGb.out).mono ?_
  rintro e w2 ⟨ml, Am, cm, hcm2, rfl, hsm, hb⟩
  have hb2 := bt hb1 hb1.size hb
  have hgm := hcm2.good (fun t h => HGa.out.within t h.1)
  have hlm := T.canon_len hcm2
  have HCm := Lib.hid hcm2
  have HGm := Lib.hid hgm
  have HSm := Lib.hid hsm
  have HSu2 := Lib.hid (HSu.out.on hb)
  have HA2 := Lib.hid (HA1.out.on hb)
  have HB2 := Lib.hid (HB1.out.on hb)
  have HAu := Lib.hid HCu.out.asc
  have HAm := Lib.hid hcm2.asc
  have Hb2 := Lib.hid hb2
  obtain ⟨mm, hmm⟩ : ∃ mm, ml.length = mm := ⟨_, rfl⟩
  have Hmm := Lib.hid hmm
  rw [hmm, Ham.out, Hbm.out] at hlm
  have hlem := hsm.le
  have hcmm := hsm.cap
  unfold maxLen at hcmm
  rw [hmm] at hlem ⊢
  clear hcm2 hgm hsm hb hb1 hb2 hmm HSu HA1 HB1
  go_wp2_with fail
  go_loopw [11] (fun i wr => ∃ k : Nat, k ≤ mu ∧ i = .int .i64 k ∧ Hid (Below w2.heap.size w2 wr)) (fun i _ => mu - (intOf i).toNat)
  case atStart => exact ⟨0, Nat.zero_le _, rfl, Lib.hid (Below.refl _ _)⟩
  case round =>
    obtain ⟨k, hk, rfl, hbel⟩ := hrel
    by_cases hlt : k < mu
    · have hkf : k < u.length := by rw [Hmu.out]; exact hlt
      obtain ⟨ad, rfl, hlb, c0, c1⟩ := (HSu2.out.below hbel.out).at_ hkf
      obtain ⟨x, y, hs⟩ : ∃ x y, u[k]'hkf = (x, y) := ⟨_, _, rfl⟩
      have hgs := HGu.out (x, y) (by rw [← hs]; exact List.getElem_mem hkf)
      have hasc : ∀ p (hp : p < u.length), p < k → (u[p]'hp).2 < x := fun p hp hpk => by
        have := List.pairwise_iff_getElem.1 HAu.out.apart p k hp hkf hpk
        rw [hs] at this
        exact this
      rw [hs] at c0 c1
      rw [addr_one] at c1
      have hck : T.checkE x y = 0 := by unfold T.checkE; simp only at hgs; rw [if_pos (by omega), if_pos (by omega)]
      have HCk := Lib.hid (fun w => Check_any x y w)
      rw [hck] at HCk
      have hsz := hbel.out.size
      have hpb : (ad.add (k * 2)).block < w2.heap.size := by rw [addr_block]; exact hlb
      by_cases hk0 : k = 0
      · have hk1 : decide ((0 : Int) < (k : Int)) = false := decide_eq_false (by omega)
        obtain ⟨z, hz⟩ : ∃ z, z = y := ⟨_, rfl⟩
        have hS0 : SS w2 (ad.add (k * 2)) (ad.add (k * 2)) x y z wr := ⟨hpb, c0, c1, hpb, by rw [hz]; exact c1, hbel.out⟩
        have Hk0 := Lib.hid hk0
        clear hs hgs hck hasc hk0 c0 c1 hz hpb
        go_wp2_with fail
        refine wp_region_noPanic ?_
        refine wp_region_held_drew (S := SS w2 (ad.add (k * 2)) (ad.add (k * 2)) x y z) (by kernel_rfl) hS0.drew (fun hHeld => ?_)
        refine wpAnyH_take (i := 0) (oi := ({ dst := some 58, op := Op.move (Operand.tmp 7), type := 29, pos := "law.go:148", after := #[], guard := none } : Oper)) (v := ?_) rfl (by kernel_rfl) (by kernel_rfl) (by kernel_rfl) (fun _ _ _ h => h) (Or.inl ⟨by rfl, ?_⟩) (by assumption) ?_
        rotate_left 1
        · intro w hSw
          obtain ⟨_, s0, s1, _, s2, _⟩ := hSw
          go_simp
          (try with_reducible rfl)
        (try simp only [Act.put, List.setIfInBounds_toArray, List.set_cons_zero, List.set_cons_succ])
        refine wpAnyH_take (i := 1) (oi := ({ dst := some 59, op := Op.move (Operand.tmp 11), type := 3, pos := "law.go:148", after := #[], guard := none } : Oper)) (v := ?_) rfl (by kernel_rfl) (by kernel_rfl) (by kernel_rfl) (fun _ _ _ h => h) (Or.inl ⟨by rfl, ?_⟩) (by assumption) ?_
        rotate_left 1
        · intro w hSw
          obtain ⟨_, s0, s1, _, s2, _⟩ := hSw
          go_simp
          (try with_reducible rfl)
        (try simp only [Act.put, List.setIfInBounds_toArray, List.set_cons_zero, List.set_cons_succ])
        refine wpAnyH_take (i := 2) (oi := ({ dst := some 60, op := Op.indexAddr 29 (Operand.tmp 58) (Operand.tmp 59), type := 0, pos := "law.go:148", after := #[{ on := 0, ground := Ground.data }, { on := 1, ground := Ground.data }], guard := none } : Oper)) (v := ?_) rfl (by kernel_rfl) (by kernel_rfl) (by kernel_rfl) (fun _ _ _ h => h) (Or.inl ⟨by rfl, ?_⟩) (by assumption) ?_
        rotate_left 1
        · intro w hSw
          obtain ⟨_, s0, s1, _, s2, _⟩ := hSw
          go_simp
          (try with_reducible rfl)
        (try simp only [Act.put, List.setIfInBounds_toArray, List.set_cons_zero, List.set_cons_succ])
        refine wpAnyH_take (i := 3) (oi := ({ dst := some 61, op := Op.load 32 (Operand.tmp 60), type := 32, pos := "law.go:148", after := #[{ on := 2, ground := Ground.data }], guard := none } : Oper)) (v := ?_) rfl (by kernel_rfl) (by kernel_rfl) (by kernel_rfl) (fun _ _ _ h => h) (Or.inl ⟨by rfl, ?_⟩) (by assumption) ?_
        rotate_left 1
        · intro w hSw
          obtain ⟨_, s0, s1, _, s2, _⟩ := hSw
          go_simp
          (try with_reducible rfl)
        (try simp only [Act.put, List.setIfInBounds_toArray, List.set_cons_zero, List.set_cons_succ])
        refine wpAnyH_ready (rs := [4]) (by kernel_rfl) (by simp) ?_
        refine AllReadyH.cons (o := ({ dst := some 62, op := Op.call { callee := Callee.value (Operand.func 22), args := #[Operand.tmp 61], argTypes := #[32] }, type := 22, pos := "law.go:148", after := #[{ on := 3, ground := Ground.data }], guard := none } : Oper)) rfl (fun K hK => ?_) AllReadyH.nil
        go_simp
        refine (HCk.out _).mono ?_
        rintro e w3 ⟨rfl, hb3⟩
        have hS3 := hHeld.on hb3
        refine hK.out _ _ hS3 (fun _ => ?_)
        clear hK K hb3
        (try simp only [Act.put, List.setIfInBounds_toArray, List.set_cons_zero, List.set_cons_succ])
        refine wpAnyH_take (i := 5) (oi := ({ dst := some 63, op := Op.binOp BinOp.neq 22 (Operand.tmp 62) (Operand.const (Value.int IntKind.i64 0)) 22, type := 4, pos := "law.go:148", after := #[{ on := 4, ground := Ground.data }], guard := none } : Oper)) (v := ?_) rfl (by kernel_rfl) (by kernel_rfl) (by kernel_rfl) (fun _ _ _ h => h) (Or.inl ⟨by rfl, ?_⟩) (by assumption) ?_
        rotate_left 1
        · intro w hSw
          obtain ⟨_, s0, s1, _, s2, _⟩ := hSw
          go_simp
          (try with_reducible rfl)
        (try simp only [Act.put, List.setIfInBounds_toArray, List.set_cons_zero, List.set_cons_succ])
        refine wpAnyH_take (i := 6) (oi := ({ dst := some 64, op := Op.move (Operand.tmp 63), type := 4, pos := "law.go:148", after := #[{ on := 5, ground := Ground.data }, { on := 4, ground := Ground.chain }], guard := none } : Oper)) (v := ?_) rfl (by kernel_rfl) (by kernel_rfl) (by kernel_rfl) (fun _ _ _ h => h) (Or.inl ⟨by rfl, ?_⟩) (by assumption) ?_
        rotate_left 1
        · intro w hSw
          obtain ⟨_, s0, s1, _, s2, _⟩ := hSw
          go_simp
          (try with_reducible rfl)
        (try simp only [Act.put, List.setIfInBounds_toArray, List.set_cons_zero, List.set_cons_succ])
        refine wpAnyH_take (i := 7) (oi := ({ dst := some 65, op := Op.move (Operand.tmp 11), type := 3, pos := "law.go:148", after := #[{ on := 6, ground := Ground.guard }], guard := some (6, false) } : Oper)) (v := ?_) rfl (by kernel_rfl) (by kernel_rfl) (by kernel_rfl) (fun _ _ _ h => h) (Or.inl ⟨by rfl, ?_⟩) (by assumption) ?_
        rotate_left 1
        · intro w hSw
          obtain ⟨_, s0, s1, _, s2, _⟩ := hSw
          go_simp
          (try with_reducible rfl)
        (try simp only [Act.put, List.setIfInBounds_toArray, List.set_cons_zero, List.set_cons_succ])
        refine wpAnyH_take (i := 8) (oi := ({ dst := some 66, op := Op.binOp BinOp.gtr 3 (Operand.tmp 65) (Operand.const (Value.int IntKind.i64 0)) 3, type := 4, pos := "law.go:148", after := #[{ on := 7, ground := Ground.data }, { on := 6, ground := Ground.guard }], guard := some (6, false) } : Oper)) (v := .bool false) rfl (by kernel_rfl) (by kernel_rfl) (by kernel_rfl) (fun _ _ _ h => h) (Or.inl ⟨by rfl, ?_⟩) (by assumption) ?_
        · intro w hSw
          obtain ⟨_, s0, s1, _, s2, _⟩ := hSw
          go_simp
          (try with_reducible rfl)
          all_goals (first | exact Hk0.out | exact Nat.pos_of_ne_zero Hk0.out)
        (try simp only [Act.put, List.setIfInBounds_toArray, List.set_cons_zero, List.set_cons_succ])
        refine wpAnyH_take (i := 9) (oi := ({ dst := some 67, op := Op.move (Operand.tmp 66), type := 4, pos := "law.go:148", after := #[{ on := 8, ground := Ground.data }, { on := 6, ground := Ground.chain }, { on := 6, ground := Ground.guard }], guard := some (6, false) } : Oper)) (v := ?_) rfl (by kernel_rfl) (by kernel_rfl) (by kernel_rfl) (fun _ _ _ h => h) (Or.inl ⟨by rfl, ?_⟩) (by assumption) ?_
        rotate_left 1
        · intro w hSw
          obtain ⟨_, s0, s1, _, s2, _⟩ := hSw
          go_simp
          (try with_reducible rfl)
        (try simp only [Act.put, List.setIfInBounds_toArray, List.set_cons_zero, List.set_cons_succ])
        refine wpAnyH_take (i := 10) (oi := ({ dst := some 68, op := Op.move (Operand.tmp 7), type := 29, pos := "law.go:148", after := #[{ on := 9, ground := Ground.guard }], guard := some (9, true) } : Oper)) (v := undef) rfl (by kernel_rfl) (by kernel_rfl) (by kernel_rfl) (fun _ _ _ h => h) (Or.inr ⟨by rfl, rfl⟩) (by assumption) ?_
        (try simp only [Act.put, List.setIfInBounds_toArray, List.set_cons_zero, List.set_cons_succ])
        refine wpAnyH_take (i := 11) (oi := ({ dst := some 69, op := Op.move (Operand.tmp 11), type := 3, pos := "law.go:148", after := #[{ on := 9, ground := Ground.guard }], guard := some (9, true) } : Oper)) (v := undef) rfl (by kernel_rfl) (by kernel_rfl) (by kernel_rfl) (fun _ _ _ h => h) (Or.inr ⟨by rfl, rfl⟩) (by assumption) ?_
        (try simp only [Act.put, List.setIfInBounds_toArray, List.set_cons_zero, List.set_cons_succ])
        refine wpAnyH_take (i := 12) (oi := ({ dst := some 70, op := Op.indexAddr 29 (Operand.tmp 68) (Operand.tmp 69), type := 0, pos := "law.go:148", after := #[{ on := 10, ground := Ground.data }, { on := 11, ground := Ground.data }, { on := 9, ground := Ground.guard }], guard := some (9, true) } : Oper)) (v := undef) rfl (by kernel_rfl) (by kernel_rfl) (by kernel_rfl) (fun _ _ _ h => h) (Or.inr ⟨by rfl, rfl⟩) (by assumption) ?_
        (try simp only [Act.put, List.setIfInBounds_toArray, List.set_cons_zero, List.set_cons_succ])
        refine wpAnyH_take (i := 13) (oi := ({ dst := some 71, op := Op.fieldAddr 32 (Operand.tmp 70) 0, type := 0, pos := "law.go:148", after := #[{ on := 12, ground := Ground.data }, { on := 9, ground := Ground.guard }], guard := some (9, true) } : Oper)) (v := undef) rfl (by kernel_rfl) (by kernel_rfl) (by kernel_rfl) (fun _ _ _ h => h) (Or.inr ⟨by rfl, rfl⟩) (by assumption) ?_
        (try simp only [Act.put, List.setIfInBounds_toArray, List.set_cons_zero, List.set_cons_succ])
        refine wpAnyH_take (i := 14) (oi := ({ dst := some 72, op := Op.load 2 (Operand.tmp 71), type := 2, pos := "law.go:148", after := #[{ on := 13, ground := Ground.data }, { on := 9, ground := Ground.guard }], guard := some (9, true) } : Oper)) (v := undef) rfl (by kernel_rfl) (by kernel_rfl) (by kernel_rfl) (fun _ _ _ h => h) (Or.inr ⟨by rfl, rfl⟩) (by assumption) ?_
        (try simp only [Act.put, List.setIfInBounds_toArray, List.set_cons_zero, List.set_cons_succ])
        refine wpAnyH_take (i := 15) (oi := ({ dst := some 73, op := Op.move (Operand.tmp 7), type := 29, pos := "law.go:148", after := #[{ on := 9, ground := Ground.guard }], guard := some (9, true) } : Oper)) (v := undef) rfl (by kernel_rfl) (by kernel_rfl) (by kernel_rfl) (fun _ _ _ h => h) (Or.inr ⟨by rfl, rfl⟩) (by assumption) ?_
        (try simp only [Act.put, List.setIfInBounds_toArray, List.set_cons_zero, List.set_cons_succ])
        refine wpAnyH_take (i := 16) (oi := ({ dst := some 74, op := Op.move (Operand.tmp 11), type := 3, pos := "law.go:148", after := #[{ on := 9, ground := Ground.guard }], guard := some (9, true) } : Oper)) (v := undef) rfl (by kernel_rfl) (by kernel_rfl) (by kernel_rfl) (fun _ _ _ h => h) (Or.inr ⟨by rfl, rfl⟩) (by assumption) ?_
        (try simp only [Act.put, List.setIfInBounds_toArray, List.set_cons_zero, List.set_cons_succ])
        refine wpAnyH_take (i := 17) (oi := ({ dst := some 75, op := Op.binOp BinOp.sub 3 (Operand.tmp 74) (Operand.const (Value.int IntKind.i64 1)) 3, type := 3, pos := "law.go:148", after := #[{ on := 16, ground := Ground.data }, { on := 9, ground := Ground.guard }], guard := some (9, true) } : Oper)) (v := undef) rfl (by kernel_rfl) (by kernel_rfl) (by kernel_rfl) (fun _ _ _ h => h) (Or.inr ⟨by rfl, rfl⟩) (by assumption) ?_
        (try simp only [Act.put, List.setIfInBounds_toArray, List.set_cons_zero, List.set_cons_succ])
        refine wpAnyH_take (i := 18) (oi := ({ dst := some 76, op := Op.indexAddr 29 (Operand.tmp 73) (Operand.tmp 75), type := 0, pos := "law.go:148", after := #[{ on := 15, ground := Ground.data }, { on := 17, ground := Ground.data }, { on := 9, ground := Ground.guard }], guard := some (9, true) } : Oper)) (v := undef) rfl (by kernel_rfl) (by kernel_rfl) (by kernel_rfl) (fun _ _ _ h => h) (Or.inr ⟨by rfl, rfl⟩) (by assumption) ?_
        (try simp only [Act.put, List.setIfInBounds_toArray, List.set_cons_zero, List.set_cons_succ])
        refine wpAnyH_take (i := 19) (oi := ({ dst := some 77, op := Op.fieldAddr 32 (Operand.tmp 76) 1, type := 0, pos := "law.go:148", after := #[{ on := 18, ground := Ground.data }, { on := 9, ground := Ground.guard }], guard := some (9, true) } : Oper)) (v := undef) rfl (by kernel_rfl) (by kernel_rfl) (by kernel_rfl) (fun _ _ _ h => h) (Or.inr ⟨by rfl, rfl⟩) (by assumption) ?_
        (try simp only [Act.put, List.setIfInBounds_toArray, List.set_cons_zero, List.set_cons_succ])
        refine wpAnyH_take (i := 20) (oi := ({ dst := some 78, op := Op.load 2 (Operand.tmp 77), type := 2, pos := "law.go:148", after := #[{ on := 19, ground := Ground.data }, { on := 9, ground := Ground.guard }], guard := some (9, true) } : Oper)) (v := undef) rfl (by kernel_rfl) (by kernel_rfl) (by kernel_rfl) (fun _ _ _ h => h) (Or.inr ⟨by rfl, rfl⟩) (by assumption) ?_
        (try simp only [Act.put, List.setIfInBounds_toArray, List.set_cons_zero, List.set_cons_succ])
        refine wpAnyH_take (i := 21) (oi := ({ dst := some 79, op := Op.binOp BinOp.leq 2 (Operand.tmp 72) (Operand.tmp 78) 2, type := 4, pos := "law.go:148", after := #[{ on := 14, ground := Ground.data }, { on := 20, ground := Ground.data }, { on := 9, ground := Ground.guard }], guard := some (9, true) } : Oper)) (v := undef) rfl (by kernel_rfl) (by kernel_rfl) (by kernel_rfl) (fun _ _ _ h => h) (Or.inr ⟨by rfl, rfl⟩) (by assumption) ?_
        (try simp only [Act.put, List.setIfInBounds_toArray, List.set_cons_zero, List.set_cons_succ])
        refine wpAnyH_take (i := 22) (oi := ({ dst := some 80, op := Op.pick (Operand.tmp 67) (Operand.tmp 79) (Operand.const (Value.bool false)), type := 4, pos := "law.go:148", after := #[{ on := 9, ground := Ground.data }, { on := 21, ground := Ground.data }, { on := 6, ground := Ground.guard }], guard := some (6, false) } : Oper)) (v := ?_) rfl (by kernel_rfl) (by kernel_rfl) (by kernel_rfl) (fun _ _ _ h => h) (Or.inl ⟨by rfl, ?_⟩) (by assumption) ?_
        rotate_left 1
        · intro w hSw
          obtain ⟨_, s0, s1, _, s2, _⟩ := hSw
          go_simp
          (try with_reducible rfl)
        (try simp only [Act.put, List.setIfInBounds_toArray, List.set_cons_zero, List.set_cons_succ])
        refine wpAnyH_take (i := 23) (oi := ({ dst := some 81, op := Op.pick (Operand.tmp 64) (Operand.const (Value.bool true)) (Operand.tmp 80), type := 4, pos := "law.go:148", after := #[{ on := 6, ground := Ground.data }, { on := 22, ground := Ground.data }], guard := none } : Oper)) (v := ?_) rfl (by kernel_rfl) (by kernel_rfl) (by kernel_rfl) (fun _ _ _ h => h) (Or.inl ⟨by rfl, ?_⟩) (by assumption) ?_
        rotate_left 1
        · intro w hSw
          obtain ⟨_, s0, s1, _, s2, _⟩ := hSw
          go_simp
          (try with_reducible rfl)
        (try simp only [Act.put, List.setIfInBounds_toArray, List.set_cons_zero, List.set_cons_succ])
        refine wpAnyH_done (by kernel_rfl) ?_ _
        refine NoPanic.normal ?_
        have HBl := Lib.hid hS3.bel
        clear hHeld hS0 hS3
        go_wp2_with fail
        go_roundw
        case rel => exact ⟨k + 1, by omega, by go_num, HBl⟩
        case measure => simp [intOf]; omega
      · obtain ⟨p, hp⟩ : ∃ p, p + 1 = k := ⟨k - 1, by omega⟩
        have hk1 : (0 : Int) < (k : Int) := by omega
        have hpl : p < u.length := by omega
        obtain ⟨ad', e', hlb', d0, d1⟩ := (HSu2.out.below hbel.out).at_ hpl
        injection e' with e'
        subst e'
        obtain ⟨z, hz⟩ : ∃ z, (u[p]'hpl).2 = z := ⟨_, rfl⟩
        have hxz : decide (x ≤ z) = false := decide_eq_false (by have := hasc p hpl (by omega); rw [hz] at this; omega)
        rw [hz] at d1
        rw [addr_one] at d1
        have hw1 : IntKind.i64.wrap ((k : Int) - 1) = (p : Int) := by rw [IntWalk.i64_in _ (by omega)]; omega
        have hpM : (p : Int) < (mu : Int) := by omega
        have hp0 : (0 : Int) ≤ (p : Int) := by omega
        have hkM : (k : Int) < (mu : Int) := by omega
        have hS0 : SS w2 (ad.add (k * 2)) (ad.add (p * 2)) x y z wr := ⟨hpb, c0, c1, by rw [addr_block]; exact hlb', d1, hbel.out⟩
        have Hp := Lib.hid hp
        have Hk0 := Lib.hid hk0
        clear hs hgs hck hasc hk0 c0 c1 d0 d1 hz hpb hlb' hpl hp
        go_wp2_with fail
        refine wp_region_noPanic ?_
        refine wp_region_held_drew (S := SS w2 (ad.add (k * 2)) (ad.add (p * 2)) x y z) (by kernel_rfl) hS0.drew (fun hHeld => ?_)
        refine wpAnyH_take (i := 0) (oi := ({ dst := some 58, op := Op.move (Operand.tmp 7), type := 29, pos := "law.go:148", after := #[], guard := none } : Oper)) (v := ?_) rfl (by kernel_rfl) (by kernel_rfl) (by kernel_rfl) (fun _ _ _ h => h) (Or.inl ⟨by rfl, ?_⟩) (by assumption) ?_
        rotate_left 1
        · intro w hSw
          obtain ⟨_, s0, s1, _, s2, _⟩ := hSw
          go_simp
          (try with_reducible rfl)
        (try simp only [Act.put, List.setIfInBounds_toArray, List.set_cons_zero, List.set_cons_succ])
        refine wpAnyH_take (i := 1) (oi := ({ dst := some 59, op := Op.move (Operand.tmp 11), type := 3, pos := "law.go:148", after := #[], guard := none } : Oper)) (v := ?_) rfl (by kernel_rfl) (by kernel_rfl) (by kernel_rfl) (fun _ _ _ h => h) (Or.inl ⟨by rfl, ?_⟩) (by assumption) ?_
        rotate_left 1
        · intro w hSw
          obtain ⟨_, s0, s1, _, s2, _⟩ := hSw
          go_simp
          (try with_reducible rfl)
        (try simp only [Act.put, List.setIfInBounds_toArray, List.set_cons_zero, List.set_cons_succ])
        refine wpAnyH_take (i := 2) (oi := ({ dst := some 60, op := Op.indexAddr 29 (Operand.tmp 58) (Operand.tmp 59), type := 0, pos := "law.go:148", after := #[{ on := 0, ground := Ground.data }, { on := 1, ground := Ground.data }], guard := none } : Oper)) (v := ?_) rfl (by kernel_rfl) (by kernel_rfl) (by kernel_rfl) (fun _ _ _ h => h) (Or.inl ⟨by rfl, ?_⟩) (by assumption) ?_
        rotate_left 1
        · intro w hSw
          obtain ⟨_, s0, s1, _, s2, _⟩ := hSw
          go_simp
          (try with_reducible rfl)
        (try simp only [Act.put, List.setIfInBounds_toArray, List.set_cons_zero, List.set_cons_succ])
        refine wpAnyH_take (i := 3) (oi := ({ dst := some 61, op := Op.load 32 (Operand.tmp 60), type := 32, pos := "law.go:148", after := #[{ on := 2, ground := Ground.data }], guard := none } : Oper)) (v := ?_) rfl (by kernel_rfl) (by kernel_rfl) (by kernel_rfl) (fun _ _ _ h => h) (Or.inl ⟨by rfl, ?_⟩) (by assumption) ?_
        rotate_left 1
        · intro w hSw
          obtain ⟨_, s0, s1, _, s2, _⟩ := hSw
          go_simp
          (try with_reducible rfl)
        (try simp only [Act.put, List.setIfInBounds_toArray, List.set_cons_zero, List.set_cons_succ])
        refine wpAnyH_ready (rs := [4]) (by kernel_rfl) (by simp) ?_
        refine AllReadyH.cons (o := ({ dst := some 62, op := Op.call { callee := Callee.value (Operand.func 22), args := #[Operand.tmp 61], argTypes := #[32] }, type := 22, pos := "law.go:148", after := #[{ on := 3, ground := Ground.data }], guard := none } : Oper)) rfl (fun K hK => ?_) AllReadyH.nil
        go_simp
        refine (HCk.out _).mono ?_
        rintro e w3 ⟨rfl, hb3⟩
        have hS3 := hHeld.on hb3
        refine hK.out _ _ hS3 (fun _ => ?_)
        clear hK K hb3
        (try simp only [Act.put, List.setIfInBounds_toArray, List.set_cons_zero, List.set_cons_succ])
        refine wpAnyH_take (i := 5) (oi := ({ dst := some 63, op := Op.binOp BinOp.neq 22 (Operand.tmp 62) (Operand.const (Value.int IntKind.i64 0)) 22, type := 4, pos := "law.go:148", after := #[{ on := 4, ground := Ground.data }], guard := none } : Oper)) (v := ?_) rfl (by kernel_rfl) (by kernel_rfl) (by kernel_rfl) (fun _ _ _ h => h) (Or.inl ⟨by rfl, ?_⟩) (by assumption) ?_
        rotate_left 1
        · intro w hSw
          obtain ⟨_, s0, s1, _, s2, _⟩ := hSw
          go_simp
          (try with_reducible rfl)
        (try simp only [Act.put, List.setIfInBounds_toArray, List.set_cons_zero, List.set_cons_succ])
        refine wpAnyH_take (i := 6) (oi := ({ dst := some 64, op := Op.move (Operand.tmp 63), type := 4, pos := "law.go:148", after := #[{ on := 5, ground := Ground.data }, { on := 4, ground := Ground.chain }], guard := none } : Oper)) (v := ?_) rfl (by kernel_rfl) (by kernel_rfl) (by kernel_rfl) (fun _ _ _ h => h) (Or.inl ⟨by rfl, ?_⟩) (by assumption) ?_
        rotate_left 1
        · intro w hSw
          obtain ⟨_, s0, s1, _, s2, _⟩ := hSw
          go_simp
          (try with_reducible rfl)
        (try simp only [Act.put, List.setIfInBounds_toArray, List.set_cons_zero, List.set_cons_succ])
        refine wpAnyH_take (i := 7) (oi := ({ dst := some 65, op := Op.move (Operand.tmp 11), type := 3, pos := "law.go:148", after := #[{ on := 6, ground := Ground.guard }], guard := some (6, false) } : Oper)) (v := ?_) rfl (by kernel_rfl) (by kernel_rfl) (by kernel_rfl) (fun _ _ _ h => h) (Or.inl ⟨by rfl, ?_⟩) (by assumption) ?_
        rotate_left 1
        · intro w hSw
          obtain ⟨_, s0, s1, _, s2, _⟩ := hSw
          go_simp
          (try with_reducible rfl)
        (try simp only [Act.put, List.setIfInBounds_toArray, List.set_cons_zero, List.set_cons_succ])
        refine wpAnyH_take (i := 8) (oi := ({ dst := some 66, op := Op.binOp BinOp.gtr 3 (Operand.tmp 65) (Operand.const (Value.int IntKind.i64 0)) 3, type := 4, pos := "law.go:148", after := #[{ on := 7, ground := Ground.data }, { on := 6, ground := Ground.guard }], guard := some (6, false) } : Oper)) (v := .bool true) rfl (by kernel_rfl) (by kernel_rfl) (by kernel_rfl) (fun _ _ _ h => h) (Or.inl ⟨by rfl, ?_⟩) (by assumption) ?_
        · intro w hSw
          obtain ⟨_, s0, s1, _, s2, _⟩ := hSw
          go_simp
          (try with_reducible rfl)
          all_goals (first | exact Hk0.out | exact Nat.pos_of_ne_zero Hk0.out)
        (try simp only [Act.put, List.setIfInBounds_toArray, List.set_cons_zero, List.set_cons_succ])
        refine wpAnyH_take (i := 9) (oi := ({ dst := some 67, op := Op.move (Operand.tmp 66), type := 4, pos := "law.go:148", after := #[{ on := 8, ground := Ground.data }, { on := 6, ground := Ground.chain }, { on := 6, ground := Ground.guard }], guard := some (6, false) } : Oper)) (v := ?_) rfl (by kernel_rfl) (by kernel_rfl) (by kernel_rfl) (fun _ _ _ h => h) (Or.inl ⟨by rfl, ?_⟩) (by assumption) ?_
        rotate_left 1
        · intro w hSw
          obtain ⟨_, s0, s1, _, s2, _⟩ := hSw
          go_simp
          (try with_reducible rfl)
        (try simp only [Act.put, List.setIfInBounds_toArray, List.set_cons_zero, List.set_cons_succ])
        refine wpAnyH_take (i := 10) (oi := ({ dst := some 68, op := Op.move (Operand.tmp 7), type := 29, pos := "law.go:148", after := #[{ on := 9, ground := Ground.guard }], guard := some (9, true) } : Oper)) (v := ?_) rfl (by kernel_rfl) (by kernel_rfl) (by kernel_rfl) (fun _ _ _ h => h) (Or.inl ⟨by rfl, ?_⟩) (by assumption) ?_
        rotate_left 1
        · intro w hSw
          obtain ⟨_, s0, s1, _, s2, _⟩ := hSw
          go_simp
          (try with_reducible rfl)
        (try simp only [Act.put, List.setIfInBounds_toArray, List.set_cons_zero, List.set_cons_succ])
        refine wpAnyH_take (i := 11) (oi := ({ dst := some 69, op := Op.move (Operand.tmp 11), type := 3, pos := "law.go:148", after := #[{ on := 9, ground := Ground.guard }], guard := some (9, true) } : Oper)) (v := ?_) rfl (by kernel_rfl) (by kernel_rfl) (by kernel_rfl) (fun _ _ _ h => h) (Or.inl ⟨by rfl, ?_⟩) (by assumption) ?_
        rotate_left 1
        · intro w hSw
          obtain ⟨_, s0, s1, _, s2, _⟩ := hSw
          go_simp
          (try with_reducible rfl)
        (try simp only [Act.put, List.setIfInBounds_toArray, List.set_cons_zero, List.set_cons_succ])
        refine wpAnyH_take (i := 12) (oi := ({ dst := some 70, op := Op.indexAddr 29 (Operand.tmp 68) (Operand.tmp 69), type := 0, pos := "law.go:148", after := #[{ on := 10, ground := Ground.data }, { on := 11, ground := Ground.data }, { on := 9, ground := Ground.guard }], guard := some (9, true) } : Oper)) (v := ?_) rfl (by kernel_rfl) (by kernel_rfl) (by kernel_rfl) (fun _ _ _ h => h) (Or.inl ⟨by rfl, ?_⟩) (by assumption) ?_
        rotate_left 1
        · intro w hSw
          obtain ⟨_, s0, s1, _, s2, _⟩ := hSw
          go_simp
          (try with_reducible rfl)
        (try simp only [Act.put, List.setIfInBounds_toArray, List.set_cons_zero, List.set_cons_succ])
        refine wpAnyH_take (i := 13) (oi := ({ dst := some 71, op := Op.fieldAddr 32 (Operand.tmp 70) 0, type := 0, pos := "law.go:148", after := #[{ on := 12, ground := Ground.data }, { on := 9, ground := Ground.guard }], guard := some (9, true) } : Oper)) (v := ?_) rfl (by kernel_rfl) (by kernel_rfl) (by kernel_rfl) (fun _ _ _ h => h) (Or.inl ⟨by rfl, ?_⟩) (by assumption) ?_
        rotate_left 1
        · intro w hSw
          obtain ⟨_, s0, s1, _, s2, _⟩ := hSw
          go_simp
          (try with_reducible rfl)
        (try simp only [Act.put, List.setIfInBounds_toArray, List.set_cons_zero, List.set_cons_succ])
        refine wpAnyH_take (i := 14) (oi := ({ dst := some 72, op := Op.load 2 (Operand.tmp 71), type := 2, pos := "law.go:148", after := #[{ on := 13, ground := Ground.data }, { on := 9, ground := Ground.guard }], guard := some (9, true) } : Oper)) (v := ?_) rfl (by kernel_rfl) (by kernel_rfl) (by kernel_rfl) (fun _ _ _ h => h) (Or.inl ⟨by rfl, ?_⟩) (by assumption) ?_
        rotate_left 1
        · intro w hSw
          obtain ⟨_, s0, s1, _, s2, _⟩ := hSw
          go_simp
          (try with_reducible rfl)
        (try simp only [Act.put, List.setIfInBounds_toArray, List.set_cons_zero, List.set_cons_succ])
        refine wpAnyH_take (i := 15) (oi := ({ dst := some 73, op := Op.move (Operand.tmp 7), type := 29, pos := "law.go:148", after := #[{ on := 9, ground := Ground.guard }], guard := some (9, true) } : Oper)) (v := ?_) rfl (by kernel_rfl) (by kernel_rfl) (by kernel_rfl) (fun _ _ _ h => h) (Or.inl ⟨by rfl, ?_⟩) (by assumption) ?_
        rotate_left 1
        · intro w hSw
          obtain ⟨_, s0, s1, _, s2, _⟩ := hSw
          go_simp
          (try with_reducible rfl)
        (try simp only [Act.put, List.setIfInBounds_toArray, List.set_cons_zero, List.set_cons_succ])
        refine wpAnyH_take (i := 16) (oi := ({ dst := some 74, op := Op.move (Operand.tmp 11), type := 3, pos := "law.go:148", after := #[{ on := 9, ground := Ground.guard }], guard := some (9, true) } : Oper)) (v := ?_) rfl (by kernel_rfl) (by kernel_rfl) (by kernel_rfl) (fun _ _ _ h => h) (Or.inl ⟨by rfl, ?_⟩) (by assumption) ?_
        rotate_left 1
        · intro w hSw
          obtain ⟨_, s0, s1, _, s2, _⟩ := hSw
          go_simp
          (try with_reducible rfl)
        (try simp only [Act.put, List.setIfInBounds_toArray, List.set_cons_zero, List.set_cons_succ])
        refine wpAnyH_take (i := 17) (oi := ({ dst := some 75, op := Op.binOp BinOp.sub 3 (Operand.tmp 74) (Operand.const (Value.int IntKind.i64 1)) 3, type := 3, pos := "law.go:148", after := #[{ on := 16, ground := Ground.data }, { on := 9, ground := Ground.guard }], guard := some (9, true) } : Oper)) (v := ?_) rfl (by kernel_rfl) (by kernel_rfl) (by kernel_rfl) (fun _ _ _ h => h) (Or.inl ⟨by rfl, ?_⟩) (by assumption) ?_
        rotate_left 1
        · intro w hSw
          obtain ⟨_, s0, s1, _, s2, _⟩ := hSw
          go_simp
          (try with_reducible rfl)
        (try simp only [Act.put, List.setIfInBounds_toArray, List.set_cons_zero, List.set_cons_succ])
        refine wpAnyH_take (i := 18) (oi := ({ dst := some 76, op := Op.indexAddr 29 (Operand.tmp 73) (Operand.tmp 75), type := 0, pos := "law.go:148", after := #[{ on := 15, ground := Ground.data }, { on := 17, ground := Ground.data }, { on := 9, ground := Ground.guard }], guard := some (9, true) } : Oper)) (v := ?_) rfl (by kernel_rfl) (by kernel_rfl) (by kernel_rfl) (fun _ _ _ h => h) (Or.inl ⟨by rfl, ?_⟩) (by assumption) ?_
        rotate_left 1
        · intro w hSw
          obtain ⟨_, s0, s1, _, s2, _⟩ := hSw
          go_simp
          (try with_reducible rfl)
        (try simp only [Act.put, List.setIfInBounds_toArray, List.set_cons_zero, List.set_cons_succ])
        refine wpAnyH_take (i := 19) (oi := ({ dst := some 77, op := Op.fieldAddr 32 (Operand.tmp 76) 1, type := 0, pos := "law.go:148", after := #[{ on := 18, ground := Ground.data }, { on := 9, ground := Ground.guard }], guard := some (9, true) } : Oper)) (v := ?_) rfl (by kernel_rfl) (by kernel_rfl) (by kernel_rfl) (fun _ _ _ h => h) (Or.inl ⟨by rfl, ?_⟩) (by assumption) ?_
        rotate_left 1
        · intro w hSw
          obtain ⟨_, s0, s1, _, s2, _⟩ := hSw
          go_simp
          (try with_reducible rfl)
        (try simp only [Act.put, List.setIfInBounds_toArray, List.set_cons_zero, List.set_cons_succ])
        refine wpAnyH_take (i := 20) (oi := ({ dst := some 78, op := Op.load 2 (Operand.tmp 77), type := 2, pos := "law.go:148", after := #[{ on := 19, ground := Ground.data }, { on := 9, ground := Ground.guard }], guard := some (9, true) } : Oper)) (v := ?_) rfl (by kernel_rfl) (by kernel_rfl) (by kernel_rfl) (fun _ _ _ h => h) (Or.inl ⟨by rfl, ?_⟩) (by assumption) ?_
        rotate_left 1
        · intro w hSw
          obtain ⟨_, s0, s1, _, s2, _⟩ := hSw
          go_simp
          (try with_reducible rfl)
        (try simp only [Act.put, List.setIfInBounds_toArray, List.set_cons_zero, List.set_cons_succ])
        refine wpAnyH_take (i := 21) (oi := ({ dst := some 79, op := Op.binOp BinOp.leq 2 (Operand.tmp 72) (Operand.tmp 78) 2, type := 4, pos := "law.go:148", after := #[{ on := 14, ground := Ground.data }, { on := 20, ground := Ground.data }, { on := 9, ground := Ground.guard }], guard := some (9, true) } : Oper)) (v := ?_) rfl (by kernel_rfl) (by kernel_rfl) (by kernel_rfl) (fun _ _ _ h => h) (Or.inl ⟨by rfl, ?_⟩) (by assumption) ?_
        rotate_left 1
        · intro w hSw
          obtain ⟨_, s0, s1, _, s2, _⟩ := hSw
          go_simp
          (try with_reducible rfl)
        (try simp only [Act.put, List.setIfInBounds_toArray, List.set_cons_zero, List.set_cons_succ])
        refine wpAnyH_take (i := 22) (oi := ({ dst := some 80, op := Op.pick (Operand.tmp 67) (Operand.tmp 79) (Operand.const (Value.bool false)), type := 4, pos := "law.go:148", after := #[{ on := 9, ground := Ground.data }, { on := 21, ground := Ground.data }, { on := 6, ground := Ground.guard }], guard := some (6, false) } : Oper)) (v := ?_) rfl (by kernel_rfl) (by kernel_rfl) (by kernel_rfl) (fun _ _ _ h => h) (Or.inl ⟨by rfl, ?_⟩) (by assumption) ?_
        rotate_left 1
        · intro w hSw
          obtain ⟨_, s0, s1, _, s2, _⟩ := hSw
          go_simp
          (try with_reducible rfl)
        (try simp only [Act.put, List.setIfInBounds_toArray, List.set_cons_zero, List.set_cons_succ])
        refine wpAnyH_take (i := 23) (oi := ({ dst := some 81, op := Op.pick (Operand.tmp 64) (Operand.const (Value.bool true)) (Operand.tmp 80), type := 4, pos := "law.go:148", after := #[{ on := 6, ground := Ground.data }, { on := 22, ground := Ground.data }], guard := none } : Oper)) (v := ?_) rfl (by kernel_rfl) (by kernel_rfl) (by kernel_rfl) (fun _ _ _ h => h) (Or.inl ⟨by rfl, ?_⟩) (by assumption) ?_
        rotate_left 1
        · intro w hSw
          obtain ⟨_, s0, s1, _, s2, _⟩ := hSw
          go_simp
          (try with_reducible rfl)
        (try simp only [Act.put, List.setIfInBounds_toArray, List.set_cons_zero, List.set_cons_succ])
        refine wpAnyH_done (by kernel_rfl) ?_ _
        refine NoPanic.normal ?_
        have HBl := Lib.hid hS3.bel
        clear hHeld hS0 hS3
        go_wp2_with fail
        go_roundw
        case rel => exact ⟨k + 1, by omega, by go_num, HBl⟩
        case measure => simp [intOf]; omega
    · have hbl0 := hbel
      clear hbel
      go_wp2_with fail
      go_loopw [12] (fun i wr => ∃ k : Nat, k ≤ mm ∧ i = .int .i64 k ∧ Hid (Below w2.heap.size w2 wr)) (fun i _ => mm - (intOf i).toNat)
      case atStart => exact ⟨0, Nat.zero_le _, rfl, hbl0⟩
      case round =>
        obtain ⟨k, hk, rfl, hbel⟩ := hrel
        by_cases hlt : k < mm
        · have hkf : k < ml.length := by rw [Hmm.out]; exact hlt
          obtain ⟨ad, rfl, hlb, c0, c1⟩ := (HSm.out.below hbel.out).at_ hkf
          obtain ⟨x, y, hs⟩ : ∃ x y, ml[k]'hkf = (x, y) := ⟨_, _, rfl⟩
          have hgs := HGm.out (x, y) (by rw [← hs]; exact List.getElem_mem hkf)
          have hasc : ∀ p (hp : p < ml.length), p < k → (ml[p]'hp).2 < x := fun p hp hpk => by
            have := List.pairwise_iff_getElem.1 HAm.out.apart p k hp hkf hpk
            rw [hs] at this
            exact this
          rw [hs] at c0 c1
          rw [addr_one] at c1
          have hck : T.checkE x y = 0 := by unfold T.checkE; simp only at hgs; rw [if_pos (by omega), if_pos (by omega)]
          have HCk := Lib.hid (fun w => Check_any x y w)
          rw [hck] at HCk
          have hsz := hbel.out.size
          have hpb : (ad.add (k * 2)).block < w2.heap.size := by rw [addr_block]; exact hlb
          by_cases hk0 : k = 0
          · have hk1 : decide ((0 : Int) < (k : Int)) = false := decide_eq_false (by omega)
            obtain ⟨z, hz⟩ : ∃ z, z = y := ⟨_, rfl⟩
            have hS0 : SS w2 (ad.add (k * 2)) (ad.add (k * 2)) x y z wr := ⟨hpb, c0, c1, hpb, by rw [hz]; exact c1, hbel.out⟩
            have Hk0 := Lib.hid hk0
            clear hs hgs hck hasc hk0 c0 c1 hz hpb
            go_wp2_with fail
            refine wp_region_noPanic ?_
            refine wp_region_held_drew (S := SS w2 (ad.add (k * 2)) (ad.add (k * 2)) x y z) (by kernel_rfl) hS0.drew (fun hHeld => ?_)
            refine wpAnyH_take (i := 0) (oi := ({ dst := some 88, op := Op.move (Operand.tmp 9), type := 29, pos := "law.go:153", after := #[], guard := none } : Oper)) (v := ?_) rfl (by kernel_rfl) (by kernel_rfl) (by kernel_rfl) (fun _ _ _ h => h) (Or.inl ⟨by rfl, ?_⟩) (by assumption) ?_
            rotate_left 1
            · intro w hSw
              obtain ⟨_, s0, s1, _, s2, _⟩ := hSw
              go_simp
              (try with_reducible rfl)
            (try simp only [Act.put, List.setIfInBounds_toArray, List.set_cons_zero, List.set_cons_succ])
            refine wpAnyH_take (i := 1) (oi := ({ dst := some 89, op := Op.move (Operand.tmp 12), type := 3, pos := "law.go:153", after := #[], guard := none } : Oper)) (v := ?_) rfl (by kernel_rfl) (by kernel_rfl) (by kernel_rfl) (fun _ _ _ h => h) (Or.inl ⟨by rfl, ?_⟩) (by assumption) ?_
            rotate_left 1
            · intro w hSw
              obtain ⟨_, s0, s1, _, s2, _⟩ := hSw
              go_simp
              (try with_reducible rfl)
            (try simp only [Act.put, List.setIfInBounds_toArray, List.set_cons_zero, List.set_cons_succ])
            refine wpAnyH_take (i := 2) (oi := ({ dst := some 90, op := Op.indexAddr 29 (Operand.tmp 88) (Operand.tmp 89), type := 0, pos := "law.go:153", after := #[{ on := 0, ground := Ground.data }, { on := 1, ground := Ground.data }], guard := none } : Oper)) (v := ?_) rfl (by kernel_rfl) (by kernel_rfl) (by kernel_rfl) (fun _ _ _ h => h) (Or.inl ⟨by rfl, ?_⟩) (by assumption) ?_
            rotate_left 1
            · intro w hSw
              obtain ⟨_, s0, s1, _, s2, _⟩ := hSw
              go_simp
              (try with_reducible rfl)
            (try simp only [Act.put, List.setIfInBounds_toArray, List.set_cons_zero, List.set_cons_succ])
            refine wpAnyH_take (i := 3) (oi := ({ dst := some 91, op := Op.load 32 (Operand.tmp 90), type := 32, pos := "law.go:153", after := #[{ on := 2, ground := Ground.data }], guard := none } : Oper)) (v := ?_) rfl (by kernel_rfl) (by kernel_rfl) (by kernel_rfl) (fun _ _ _ h => h) (Or.inl ⟨by rfl, ?_⟩) (by assumption) ?_
            rotate_left 1
            · intro w hSw
              obtain ⟨_, s0, s1, _, s2, _⟩ := hSw
              go_simp
              (try with_reducible rfl)
            (try simp only [Act.put, List.setIfInBounds_toArray, List.set_cons_zero, List.set_cons_succ])
            refine wpAnyH_ready (rs := [4]) (by kernel_rfl) (by simp) ?_
            refine AllReadyH.cons (o := ({ dst := some 92, op := Op.call { callee := Callee.value (Operand.func 22), args := #[Operand.tmp 91], argTypes := #[32] }, type := 22, pos := "law.go:153", after := #[{ on := 3, ground := Ground.data }], guard := none } : Oper)) rfl (fun K hK => ?_) AllReadyH.nil
            go_simp
            refine (HCk.out _).mono ?_
            rintro e w3 ⟨rfl, hb3⟩
            have hS3 := hHeld.on hb3
            refine hK.out _ _ hS3 (fun _ => ?_)
            clear hK K hb3
            (try simp only [Act.put, List.setIfInBounds_toArray, List.set_cons_zero, List.set_cons_succ])
            refine wpAnyH_take (i := 5) (oi := ({ dst := some 93, op := Op.binOp BinOp.neq 22 (Operand.tmp 92) (Operand.const (Value.int IntKind.i64 0)) 22, type := 4, pos := "law.go:153", after := #[{ on := 4, ground := Ground.data }], guard := none } : Oper)) (v := ?_) rfl (by kernel_rfl) (by kernel_rfl) (by kernel_rfl) (fun _ _ _ h => h) (Or.inl ⟨by rfl, ?_⟩) (by assumption) ?_
            rotate_left 1
            · intro w hSw
              obtain ⟨_, s0, s1, _, s2, _⟩ := hSw
              go_simp
              (try with_reducible rfl)
            (try simp only [Act.put, List.setIfInBounds_toArray, List.set_cons_zero, List.set_cons_succ])
            refine wpAnyH_take (i := 6) (oi := ({ dst := some 94, op := Op.move (Operand.tmp 93), type := 4, pos := "law.go:153", after := #[{ on := 5, ground := Ground.data }, { on := 4, ground := Ground.chain }], guard := none } : Oper)) (v := ?_) rfl (by kernel_rfl) (by kernel_rfl) (by kernel_rfl) (fun _ _ _ h => h) (Or.inl ⟨by rfl, ?_⟩) (by assumption) ?_
            rotate_left 1
            · intro w hSw
              obtain ⟨_, s0, s1, _, s2, _⟩ := hSw
              go_simp
              (try with_reducible rfl)
            (try simp only [Act.put, List.setIfInBounds_toArray, List.set_cons_zero, List.set_cons_succ])
            refine wpAnyH_take (i := 7) (oi := ({ dst := some 95, op := Op.move (Operand.tmp 12), type := 3, pos := "law.go:153", after := #[{ on := 6, ground := Ground.guard }], guard := some (6, false) } : Oper)) (v := ?_) rfl (by kernel_rfl) (by kernel_rfl) (by kernel_rfl) (fun _ _ _ h => h) (Or.inl ⟨by rfl, ?_⟩) (by assumption) ?_
            rotate_left 1
            · intro w hSw
              obtain ⟨_, s0, s1, _, s2, _⟩ := hSw
              go_simp
              (try with_reducible rfl)
            (try simp only [Act.put, List.setIfInBounds_toArray, List.set_cons_zero, List.set_cons_succ])
            refine wpAnyH_take (i := 8) (oi := ({ dst := some 96, op := Op.binOp BinOp.gtr 3 (Operand.tmp 95) (Operand.const (Value.int IntKind.i64 0)) 3, type := 4, pos := "law.go:153", after := #[{ on := 7, ground := Ground.data }, { on := 6, ground := Ground.guard }], guard := some (6, false) } : Oper)) (v := .bool false) rfl (by kernel_rfl) (by kernel_rfl) (by kernel_rfl) (fun _ _ _ h => h) (Or.inl ⟨by rfl, ?_⟩) (by assumption) ?_
            · intro w hSw
              obtain ⟨_, s0, s1, _, s2, _⟩ := hSw
              go_simp
              (try with_reducible rfl)
              all_goals (first | exact Hk0.out | exact Nat.pos_of_ne_zero Hk0.out)
            (try simp only [Act.put, List.setIfInBounds_toArray, List.set_cons_zero, List.set_cons_succ])
            refine wpAnyH_take (i := 9) (oi := ({ dst := some 97, op := Op.move (Operand.tmp 96), type := 4, pos := "law.go:153", after := #[{ on := 8, ground := Ground.data }, { on := 6, ground := Ground.chain }, { on := 6, ground := Ground.guard }], guard := some (6, false) } : Oper)) (v := ?_) rfl (by kernel_rfl) (by kernel_rfl) (by kernel_rfl) (fun _ _ _ h => h) (Or.inl ⟨by rfl, ?_⟩) (by assumption) ?_
            rotate_left 1
            · intro w hSw
              obtain ⟨_, s0, s1, _, s2, _⟩ := hSw
              go_simp
              (try with_reducible rfl)
            (try simp only [Act.put, List.setIfInBounds_toArray, List.set_cons_zero, List.set_cons_succ])
            refine wpAnyH_take (i := 10) (oi := ({ dst := some 98, op := Op.move (Operand.tmp 9), type := 29, pos := "law.go:153", after := #[{ on := 9, ground := Ground.guard }], guard := some (9, true) } : Oper)) (v := undef) rfl (by kernel_rfl) (by kernel_rfl) (by kernel_rfl) (fun _ _ _ h => h) (Or.inr ⟨by rfl, rfl⟩) (by assumption) ?_
            (try simp only [Act.put, List.setIfInBounds_toArray, List.set_cons_zero, List.set_cons_succ])
            refine wpAnyH_take (i := 11) (oi := ({ dst := some 99, op := Op.move (Operand.tmp 12), type := 3, pos := "law.go:153", after := #[{ on := 9, ground := Ground.guard }], guard := some (9, true) } : Oper)) (v := undef) rfl (by kernel_rfl) (by kernel_rfl) (by kernel_rfl) (fun _ _ _ h => h) (Or.inr ⟨by rfl, rfl⟩) (by assumption) ?_
            (try simp only [Act.put, List.setIfInBounds_toArray, List.set_cons_zero, List.set_cons_succ])
            refine wpAnyH_take (i := 12) (oi := ({ dst := some 100, op := Op.indexAddr 29 (Operand.tmp 98) (Operand.tmp 99), type := 0, pos := "law.go:153", after := #[{ on := 10, ground := Ground.data }, { on := 11, ground := Ground.data }, { on := 9, ground := Ground.guard }], guard := some (9, true) } : Oper)) (v := undef) rfl (by kernel_rfl) (by kernel_rfl) (by kernel_rfl) (fun _ _ _ h => h) (Or.inr ⟨by rfl, rfl⟩) (by assumption) ?_
            (try simp only [Act.put, List.setIfInBounds_toArray, List.set_cons_zero, List.set_cons_succ])
            refine wpAnyH_take (i := 13) (oi := ({ dst := some 101, op := Op.fieldAddr 32 (Operand.tmp 100) 0, type := 0, pos := "law.go:153", after := #[{ on := 12, ground := Ground.data }, { on := 9, ground := Ground.guard }], guard := some (9, true) } : Oper)) (v := undef) rfl (by kernel_rfl) (by kernel_rfl) (by kernel_rfl) (fun _ _ _ h => h) (Or.inr ⟨by rfl, rfl⟩) (by assumption) ?_
            (try simp only [Act.put, List.setIfInBounds_toArray, List.set_cons_zero, List.set_cons_succ])
            refine wpAnyH_take (i := 14) (oi := ({ dst := some 102, op := Op.load 2 (Operand.tmp 101), type := 2, pos := "law.go:153", after := #[{ on := 13, ground := Ground.data }, { on := 9, ground := Ground.guard }], guard := some (9, true) } : Oper)) (v := undef) rfl (by kernel_rfl) (by kernel_rfl) (by kernel_rfl) (fun _ _ _ h => h) (Or.inr ⟨by rfl, rfl⟩) (by assumption) ?_
            (try simp only [Act.put, List.setIfInBounds_toArray, List.set_cons_zero, List.set_cons_succ])
            refine wpAnyH_take (i := 15) (oi := ({ dst := some 103, op := Op.move (Operand.tmp 9), type := 29, pos := "law.go:153", after := #[{ on := 9, ground := Ground.guard }], guard := some (9, true) } : Oper)) (v := undef) rfl (by kernel_rfl) (by kernel_rfl) (by kernel_rfl) (fun _ _ _ h => h) (Or.inr ⟨by rfl, rfl⟩) (by assumption) ?_
            (try simp only [Act.put, List.setIfInBounds_toArray, List.set_cons_zero, List.set_cons_succ])
            refine wpAnyH_take (i := 16) (oi := ({ dst := some 104, op := Op.move (Operand.tmp 12), type := 3, pos := "law.go:153", after := #[{ on := 9, ground := Ground.guard }], guard := some (9, true) } : Oper)) (v := undef) rfl (by kernel_rfl) (by kernel_rfl) (by kernel_rfl) (fun _ _ _ h => h) (Or.inr ⟨by rfl, rfl⟩) (by assumption) ?_
            (try simp only [Act.put, List.setIfInBounds_toArray, List.set_cons_zero, List.set_cons_succ])
            refine wpAnyH_take (i := 17) (oi := ({ dst := some 105, op := Op.binOp BinOp.sub 3 (Operand.tmp 104) (Operand.const (Value.int IntKind.i64 1)) 3, type := 3, pos := "law.go:153", after := #[{ on := 16, ground := Ground.data }, { on := 9, ground := Ground.guard }], guard := some (9, true) } : Oper)) (v := undef) rfl (by kernel_rfl) (by kernel_rfl) (by kernel_rfl) (fun _ _ _ h => h) (Or.inr ⟨by rfl, rfl⟩) (by assumption) ?_
            (try simp only [Act.put, List.setIfInBounds_toArray, List.set_cons_zero, List.set_cons_succ])
            refine wpAnyH_take (i := 18) (oi := ({ dst := some 106, op := Op.indexAddr 29 (Operand.tmp 103) (Operand.tmp 105), type := 0, pos := "law.go:153", after := #[{ on := 15, ground := Ground.data }, { on := 17, ground := Ground.data }, { on := 9, ground := Ground.guard }], guard := some (9, true) } : Oper)) (v := undef) rfl (by kernel_rfl) (by kernel_rfl) (by kernel_rfl) (fun _ _ _ h => h) (Or.inr ⟨by rfl, rfl⟩) (by assumption) ?_
            (try simp only [Act.put, List.setIfInBounds_toArray, List.set_cons_zero, List.set_cons_succ])
            refine wpAnyH_take (i := 19) (oi := ({ dst := some 107, op := Op.fieldAddr 32 (Operand.tmp 106) 1, type := 0, pos := "law.go:153", after := #[{ on := 18, ground := Ground.data }, { on := 9, ground := Ground.guard }], guard := some (9, true) } : Oper)) (v := undef) rfl (by kernel_rfl) (by kernel_rfl) (by kernel_rfl) (fun _ _ _ h => h) (Or.inr ⟨by rfl, rfl⟩) (by assumption) ?_
            (try simp only [Act.put, List.setIfInBounds_toArray, List.set_cons_zero, List.set_cons_succ])
            refine wpAnyH_take (i := 20) (oi := ({ dst := some 108, op := Op.load 2 (Operand.tmp 107), type := 2, pos := "law.go:153", after := #[{ on := 19, ground := Ground.data }, { on := 9, ground := Ground.guard }], guard := some (9, true) } : Oper)) (v := undef) rfl (by kernel_rfl) (by kernel_rfl) (by kernel_rfl) (fun _ _ _ h => h) (Or.inr ⟨by rfl, rfl⟩) (by assumption) ?_
            (try simp only [Act.put, List.setIfInBounds_toArray, List.set_cons_zero, List.set_cons_succ])
            refine wpAnyH_take (i := 21) (oi := ({ dst := some 109, op := Op.binOp BinOp.leq 2 (Operand.tmp 102) (Operand.tmp 108) 2, type := 4, pos := "law.go:153", after := #[{ on := 14, ground := Ground.data }, { on := 20, ground := Ground.data }, { on := 9, ground := Ground.guard }], guard := some (9, true) } : Oper)) (v := undef) rfl (by kernel_rfl) (by kernel_rfl) (by kernel_rfl) (fun _ _ _ h => h) (Or.inr ⟨by rfl, rfl⟩) (by assumption) ?_
            (try simp only [Act.put, List.setIfInBounds_toArray, List.set_cons_zero, List.set_cons_succ])
            refine wpAnyH_take (i := 22) (oi := ({ dst := some 110, op := Op.pick (Operand.tmp 97) (Operand.tmp 109) (Operand.const (Value.bool false)), type := 4, pos := "law.go:153", after := #[{ on := 9, ground := Ground.data }, { on := 21, ground := Ground.data }, { on := 6, ground := Ground.guard }], guard := some (6, false) } : Oper)) (v := ?_) rfl (by kernel_rfl) (by kernel_rfl) (by kernel_rfl) (fun _ _ _ h => h) (Or.inl ⟨by rfl, ?_⟩) (by assumption) ?_
            rotate_left 1
            · intro w hSw
              obtain ⟨_, s0, s1, _, s2, _⟩ := hSw
              go_simp
              (try with_reducible rfl)
            (try simp only [Act.put, List.setIfInBounds_toArray, List.set_cons_zero, List.set_cons_succ])
            refine wpAnyH_take (i := 23) (oi := ({ dst := some 111, op := Op.pick (Operand.tmp 94) (Operand.const (Value.bool true)) (Operand.tmp 110), type := 4, pos := "law.go:153", after := #[{ on := 6, ground := Ground.data }, { on := 22, ground := Ground.data }], guard := none } : Oper)) (v := ?_) rfl (by kernel_rfl) (by kernel_rfl) (by kernel_rfl) (fun _ _ _ h => h) (Or.inl ⟨by rfl, ?_⟩) (by assumption) ?_
            rotate_left 1
            · intro w hSw
              obtain ⟨_, s0, s1, _, s2, _⟩ := hSw
              go_simp
              (try with_reducible rfl)
            (try simp only [Act.put, List.setIfInBounds_toArray, List.set_cons_zero, List.set_cons_succ])
            refine wpAnyH_done (by kernel_rfl) ?_ _
            refine NoPanic.normal ?_
            have HBl := Lib.hid hS3.bel
            clear hHeld hS0 hS3
            go_wp2_with fail
            go_roundw
            case rel => exact ⟨k + 1, by omega, by go_num, HBl⟩
            case measure => simp [intOf]; omega
          · obtain ⟨p, hp⟩ : ∃ p, p + 1 = k := ⟨k - 1, by omega⟩
            have hk1 : (0 : Int) < (k : Int) := by omega
            have hpl : p < ml.length := by omega
            obtain ⟨ad', e', hlb', d0, d1⟩ := (HSm.out.below hbel.out).at_ hpl
            injection e' with e'
            subst e'
            obtain ⟨z, hz⟩ : ∃ z, (ml[p]'hpl).2 = z := ⟨_, rfl⟩
            have hxz : decide (x ≤ z) = false := decide_eq_false (by have := hasc p hpl (by omega); rw [hz] at this; omega)
            rw [hz] at d1
            rw [addr_one] at d1
            have hw1 : IntKind.i64.wrap ((k : Int) - 1) = (p : Int) := by rw [IntWalk.i64_in _ (by omega)]; omega
            have hpM : (p : Int) < (mm : Int) := by omega
            have hp0 : (0 : Int) ≤ (p : Int) := by omega
            have hkM : (k : Int) < (mm : Int) := by omega
            have hS0 : SS w2 (ad.add (k * 2)) (ad.add (p * 2)) x y z wr := ⟨hpb, c0, c1, by rw [addr_block]; exact hlb', d1, hbel.out⟩
            have Hp := Lib.hid hp
            have Hk0 := Lib.hid hk0
            clear hs hgs hck hasc hk0 c0 c1 d0 d1 hz hpb hlb' hpl hp
            go_wp2_with fail
            refine wp_region_noPanic ?_
            refine wp_region_held_drew (S := SS w2 (ad.add (k * 2)) (ad.add (p * 2)) x y z) (by kernel_rfl) hS0.drew (fun hHeld => ?_)
            refine wpAnyH_take (i := 0) (oi := ({ dst := some 88, op := Op.move (Operand.tmp 9), type := 29, pos := "law.go:153", after := #[], guard := none } : Oper)) (v := ?_) rfl (by kernel_rfl) (by kernel_rfl) (by kernel_rfl) (fun _ _ _ h => h) (Or.inl ⟨by rfl, ?_⟩) (by assumption) ?_
            rotate_left 1
            · intro w hSw
              obtain ⟨_, s0, s1, _, s2, _⟩ := hSw
              go_simp
              (try with_reducible rfl)
            (try simp only [Act.put, List.setIfInBounds_toArray, List.set_cons_zero, List.set_cons_succ])
            refine wpAnyH_take (i := 1) (oi := ({ dst := some 89, op := Op.move (Operand.tmp 12), type := 3, pos := "law.go:153", after := #[], guard := none } : Oper)) (v := ?_) rfl (by kernel_rfl) (by kernel_rfl) (by kernel_rfl) (fun _ _ _ h => h) (Or.inl ⟨by rfl, ?_⟩) (by assumption) ?_
            rotate_left 1
            · intro w hSw
              obtain ⟨_, s0, s1, _, s2, _⟩ := hSw
              go_simp
              (try with_reducible rfl)
            (try simp only [Act.put, List.setIfInBounds_toArray, List.set_cons_zero, List.set_cons_succ])
            refine wpAnyH_take (i := 2) (oi := ({ dst := some 90, op := Op.indexAddr 29 (Operand.tmp 88) (Operand.tmp 89), type := 0, pos := "law.go:153", after := #[{ on := 0, ground := Ground.data }, { on := 1, ground := Ground.data }], guard := none } : Oper)) (v := ?_) rfl (by kernel_rfl) (by kernel_rfl) (by kernel_rfl) (fun _ _ _ h => h) (Or.inl ⟨by rfl, ?_⟩) (by assumption) ?_
            rotate_left 1
            · intro w hSw
              obtain ⟨_, s0, s1, _, s2, _⟩ := hSw
              go_simp
              (try with_reducible rfl)
            (try simp only [Act.put, List.setIfInBounds_toArray, List.set_cons_zero, List.set_cons_succ])
            refine wpAnyH_take (i := 3) (oi := ({ dst := some 91, op := Op.load 32 (Operand.tmp 90), type := 32, pos := "law.go:153", after := #[{ on := 2, ground := Ground.data }], guard := none } : Oper)) (v := ?_) rfl (by kernel_rfl) (by kernel_rfl) (by kernel_rfl) (fun _ _ _ h => h) (Or.inl ⟨by rfl, ?_⟩) (by assumption) ?_
            rotate_left 1
            · intro w hSw
              obtain ⟨_, s0, s1, _, s2, _⟩ := hSw
              go_simp
              (try with_reducible rfl)
            (try simp only [Act.put, List.setIfInBounds_toArray, List.set_cons_zero, List.set_cons_succ])
            refine wpAnyH_ready (rs := [4]) (by kernel_rfl) (by simp) ?_
            refine AllReadyH.cons (o := ({ dst := some 92, op := Op.call { callee := Callee.value (Operand.func 22), args := #[Operand.tmp 91], argTypes := #[32] }, type := 22, pos := "law.go:153", after := #[{ on := 3, ground := Ground.data }], guard := none } : Oper)) rfl (fun K hK => ?_) AllReadyH.nil
            go_simp
            refine (HCk.out _).mono ?_
            rintro e w3 ⟨rfl, hb3⟩
            have hS3 := hHeld.on hb3
            refine hK.out _ _ hS3 (fun _ => ?_)
            clear hK K hb3
            (try simp only [Act.put, List.setIfInBounds_toArray, List.set_cons_zero, List.set_cons_succ])
            refine wpAnyH_take (i := 5) (oi := ({ dst := some 93, op := Op.binOp BinOp.neq 22 (Operand.tmp 92) (Operand.const (Value.int IntKind.i64 0)) 22, type := 4, pos := "law.go:153", after := #[{ on := 4, ground := Ground.data }], guard := none } : Oper)) (v := ?_) rfl (by kernel_rfl) (by kernel_rfl) (by kernel_rfl) (fun _ _ _ h => h) (Or.inl ⟨by rfl, ?_⟩) (by assumption) ?_
            rotate_left 1
            · intro w hSw
              obtain ⟨_, s0, s1, _, s2, _⟩ := hSw
              go_simp
              (try with_reducible rfl)
            (try simp only [Act.put, List.setIfInBounds_toArray, List.set_cons_zero, List.set_cons_succ])
            refine wpAnyH_take (i := 6) (oi := ({ dst := some 94, op := Op.move (Operand.tmp 93), type := 4, pos := "law.go:153", after := #[{ on := 5, ground := Ground.data }, { on := 4, ground := Ground.chain }], guard := none } : Oper)) (v := ?_) rfl (by kernel_rfl) (by kernel_rfl) (by kernel_rfl) (fun _ _ _ h => h) (Or.inl ⟨by rfl, ?_⟩) (by assumption) ?_
            rotate_left 1
            · intro w hSw
              obtain ⟨_, s0, s1, _, s2, _⟩ := hSw
              go_simp
              (try with_reducible rfl)
            (try simp only [Act.put, List.setIfInBounds_toArray, List.set_cons_zero, List.set_cons_succ])
            refine wpAnyH_take (i := 7) (oi := ({ dst := some 95, op := Op.move (Operand.tmp 12), type := 3, pos := "law.go:153", after := #[{ on := 6, ground := Ground.guard }], guard := some (6, false) } : Oper)) (v := ?_) rfl (by kernel_rfl) (by kernel_rfl) (by kernel_rfl) (fun _ _ _ h => h) (Or.inl ⟨by rfl, ?_⟩) (by assumption) ?_
            rotate_left 1
            · intro w hSw
              obtain ⟨_, s0, s1, _, s2, _⟩ := hSw
              go_simp
              (try with_reducible rfl)
            (try simp only [Act.put, List.setIfInBounds_toArray, List.set_cons_zero, List.set_cons_succ])
            refine wpAnyH_take (i := 8) (oi := ({ dst := some 96, op := Op.binOp BinOp.gtr 3 (Operand.tmp 95) (Operand.const (Value.int IntKind.i64 0)) 3, type := 4, pos := "law.go:153", after := #[{ on := 7, ground := Ground.data }, { on := 6, ground := Ground.guard }], guard := some (6, false) } : Oper)) (v := .bool true) rfl (by kernel_rfl) (by kernel_rfl) (by kernel_rfl) (fun _ _ _ h => h) (Or.inl ⟨by rfl, ?_⟩) (by assumption) ?_
            · intro w hSw
              obtain ⟨_, s0, s1, _, s2, _⟩ := hSw
              go_simp
              (try with_reducible rfl)
              all_goals (first | exact Hk0.out | exact Nat.pos_of_ne_zero Hk0.out)
            (try simp only [Act.put, List.setIfInBounds_toArray, List.set_cons_zero, List.set_cons_succ])
            refine wpAnyH_take (i := 9) (oi := ({ dst := some 97, op := Op.move (Operand.tmp 96), type := 4, pos := "law.go:153", after := #[{ on := 8, ground := Ground.data }, { on := 6, ground := Ground.chain }, { on := 6, ground := Ground.guard }], guard := some (6, false) } : Oper)) (v := ?_) rfl (by kernel_rfl) (by kernel_rfl) (by kernel_rfl) (fun _ _ _ h => h) (Or.inl ⟨by rfl, ?_⟩) (by assumption) ?_
            rotate_left 1
            · intro w hSw
              obtain ⟨_, s0, s1, _, s2, _⟩ := hSw
              go_simp
              (try with_reducible rfl)
            (try simp only [Act.put, List.setIfInBounds_toArray, List.set_cons_zero, List.set_cons_succ])
            refine wpAnyH_take (i := 10) (oi := ({ dst := some 98, op := Op.move (Operand.tmp 9), type := 29, pos := "law.go:153", after := #[{ on := 9, ground := Ground.guard }], guard := some (9, true) } : Oper)) (v := ?_) rfl (by kernel_rfl) (by kernel_rfl) (by kernel_rfl) (fun _ _ _ h => h) (Or.inl ⟨by rfl, ?_⟩) (by assumption) ?_
            rotate_left 1
            · intro w hSw
              obtain ⟨_, s0, s1, _, s2, _⟩ := hSw
              go_simp
              (try with_reducible rfl)
            (try simp only [Act.put, List.setIfInBounds_toArray, List.set_cons_zero, List.set_cons_succ])
            refine wpAnyH_take (i := 11) (oi := ({ dst := some 99, op := Op.move (Operand.tmp 12), type := 3, pos := "law.go:153", after := #[{ on := 9, ground := Ground.guard }], guard := some (9, true) } : Oper)) (v := ?_) rfl (by kernel_rfl) (by kernel_rfl) (by kernel_rfl) (fun _ _ _ h => h) (Or.inl ⟨by rfl, ?_⟩) (by assumption) ?_
            rotate_left 1
            · intro w hSw
              obtain ⟨_, s0, s1, _, s2, _⟩ := hSw
              go_simp
              (try with_reducible rfl)
            (try simp only [Act.put, List.setIfInBounds_toArray, List.set_cons_zero, List.set_cons_succ])
            refine wpAnyH_take (i := 12) (oi := ({ dst := some 100, op := Op.indexAddr 29 (Operand.tmp 98) (Operand.tmp 99), type := 0, pos := "law.go:153", after := #[{ on := 10, ground := Ground.data }, { on := 11, ground := Ground.data }, { on := 9, ground := Ground.guard }], guard := some (9, true) } : Oper)) (v := ?_) rfl (by kernel_rfl) (by kernel_rfl) (by kernel_rfl) (fun _ _ _ h => h) (Or.inl ⟨by rfl, ?_⟩) (by assumption) ?_
            rotate_left 1
            · intro w hSw
              obtain ⟨_, s0, s1, _, s2, _⟩ := hSw
              go_simp
              (try with_reducible rfl)
            (try simp only [Act.put, List.setIfInBounds_toArray, List.set_cons_zero, List.set_cons_succ])
            refine wpAnyH_take (i := 13) (oi := ({ dst := some 101, op := Op.fieldAddr 32 (Operand.tmp 100) 0, type := 0, pos := "law.go:153", after := #[{ on := 12, ground := Ground.data }, { on := 9, ground := Ground.guard }], guard := some (9, true) } : Oper)) (v := ?_) rfl (by kernel_rfl) (by kernel_rfl) (by kernel_rfl) (fun _ _ _ h => h) (Or.inl ⟨by rfl, ?_⟩) (by assumption) ?_
            rotate_left 1
            · intro w hSw
              obtain ⟨_, s0, s1, _, s2, _⟩ := hSw
              go_simp
              (try with_reducible rfl)
            (try simp only [Act.put, List.setIfInBounds_toArray, List.set_cons_zero, List.set_cons_succ])
            refine wpAnyH_take (i := 14) (oi := ({ dst := some 102, op := Op.load 2 (Operand.tmp 101), type := 2, pos := "law.go:153", after := #[{ on := 13, ground := Ground.data }, { on := 9, ground := Ground.guard }], guard := some (9, true) } : Oper)) (v := ?_) rfl (by kernel_rfl) (by kernel_rfl) (by kernel_rfl) (fun _ _ _ h => h) (Or.inl ⟨by rfl, ?_⟩) (by assumption) ?_
            rotate_left 1
            · intro w hSw
              obtain ⟨_, s0, s1, _, s2, _⟩ := hSw
              go_simp
              (try with_reducible rfl)
            (try simp only [Act.put, List.setIfInBounds_toArray, List.set_cons_zero, List.set_cons_succ])
            refine wpAnyH_take (i := 15) (oi := ({ dst := some 103, op := Op.move (Operand.tmp 9), type := 29, pos := "law.go:153", after := #[{ on := 9, ground := Ground.guard }], guard := some (9, true) } : Oper)) (v := ?_) rfl (by kernel_rfl) (by kernel_rfl) (by kernel_rfl) (fun _ _ _ h => h) (Or.inl ⟨by rfl, ?_⟩) (by assumption) ?_
            rotate_left 1
            · intro w hSw
              obtain ⟨_, s0, s1, _, s2, _⟩ := hSw
              go_simp
              (try with_reducible rfl)
            (try simp only [Act.put, List.setIfInBounds_toArray, List.set_cons_zero, List.set_cons_succ])
            refine wpAnyH_take (i := 16) (oi := ({ dst := some 104, op := Op.move (Operand.tmp 12), type := 3, pos := "law.go:153", after := #[{ on := 9, ground := Ground.guard }], guard := some (9, true) } : Oper)) (v := ?_) rfl (by kernel_rfl) (by kernel_rfl) (by kernel_rfl) (fun _ _ _ h => h) (Or.inl ⟨by rfl, ?_⟩) (by assumption) ?_
            rotate_left 1
            · intro w hSw
              obtain ⟨_, s0, s1, _, s2, _⟩ := hSw
              go_simp
              (try with_reducible rfl)
            (try simp only [Act.put, List.setIfInBounds_toArray, List.set_cons_zero, List.set_cons_succ])
            refine wpAnyH_take (i := 17) (oi := ({ dst := some 105, op := Op.binOp BinOp.sub 3 (Operand.tmp 104) (Operand.const (Value.int IntKind.i64 1)) 3, type := 3, pos := "law.go:153", after := #[{ on := 16, ground := Ground.data }, { on := 9, ground := Ground.guard }], guard := some (9, true) } : Oper)) (v := ?_) rfl (by kernel_rfl) (by kernel_rfl) (by kernel_rfl) (fun _ _ _ h => h) (Or.inl ⟨by rfl, ?_⟩) (by assumption) ?_
            rotate_left 1
            · intro w hSw
              obtain ⟨_, s0, s1, _, s2, _⟩ := hSw
              go_simp
              (try with_reducible rfl)
            (try simp only [Act.put, List.setIfInBounds_toArray, List.set_cons_zero, List.set_cons_succ])
            refine wpAnyH_take (i := 18) (oi := ({ dst := some 106, op := Op.indexAddr 29 (Operand.tmp 103) (Operand.tmp 105), type := 0, pos := "law.go:153", after := #[{ on := 15, ground := Ground.data }, { on := 17, ground := Ground.data }, { on := 9, ground := Ground.guard }], guard := some (9, true) } : Oper)) (v := ?_) rfl (by kernel_rfl) (by kernel_rfl) (by kernel_rfl) (fun _ _ _ h => h) (Or.inl ⟨by rfl, ?_⟩) (by assumption) ?_
            rotate_left 1
            · intro w hSw
              obtain ⟨_, s0, s1, _, s2, _⟩ := hSw
              go_simp
              (try with_reducible rfl)
            (try simp only [Act.put, List.setIfInBounds_toArray, List.set_cons_zero, List.set_cons_succ])
            refine wpAnyH_take (i := 19) (oi := ({ dst := some 107, op := Op.fieldAddr 32 (Operand.tmp 106) 1, type := 0, pos := "law.go:153", after := #[{ on := 18, ground := Ground.data }, { on := 9, ground := Ground.guard }], guard := some (9, true) } : Oper)) (v := ?_) rfl (by kernel_rfl) (by kernel_rfl) (by kernel_rfl) (fun _ _ _ h => h) (Or.inl ⟨by rfl, ?_⟩) (by assumption) ?_
            rotate_left 1
            · intro w hSw
              obtain ⟨_, s0, s1, _, s2, _⟩ := hSw
              go_simp
              (try with_reducible rfl)
            (try simp only [Act.put, List.setIfInBounds_toArray, List.set_cons_zero, List.set_cons_succ])
            refine wpAnyH_take (i := 20) (oi := ({ dst := some 108, op := Op.load 2 (Operand.tmp 107), type := 2, pos := "law.go:153", after := #[{ on := 19, ground := Ground.data }, { on := 9, ground := Ground.guard }], guard := some (9, true) } : Oper)) (v := ?_) rfl (by kernel_rfl) (by kernel_rfl) (by kernel_rfl) (fun _ _ _ h => h) (Or.inl ⟨by rfl, ?_⟩) (by assumption) ?_
            rotate_left 1
            · intro w hSw
              obtain ⟨_, s0, s1, _, s2, _⟩ := hSw
              go_simp
              (try with_reducible rfl)
            (try simp only [Act.put, List.setIfInBounds_toArray, List.set_cons_zero, List.set_cons_succ])
            refine wpAnyH_take (i := 21) (oi := ({ dst := some 109, op := Op.binOp BinOp.leq 2 (Operand.tmp 102) (Operand.tmp 108) 2, type := 4, pos := "law.go:153", after := #[{ on := 14, ground := Ground.data }, { on := 20, ground := Ground.data }, { on := 9, ground := Ground.guard }], guard := some (9, true) } : Oper)) (v := ?_) rfl (by kernel_rfl) (by kernel_rfl) (by kernel_rfl) (fun _ _ _ h => h) (Or.inl ⟨by rfl, ?_⟩) (by assumption) ?_
            rotate_left 1
            · intro w hSw
              obtain ⟨_, s0, s1, _, s2, _⟩ := hSw
              go_simp
              (try with_reducible rfl)
            (try simp only [Act.put, List.setIfInBounds_toArray, List.set_cons_zero, List.set_cons_succ])
            refine wpAnyH_take (i := 22) (oi := ({ dst := some 110, op := Op.pick (Operand.tmp 97) (Operand.tmp 109) (Operand.const (Value.bool false)), type := 4, pos := "law.go:153", after := #[{ on := 9, ground := Ground.data }, { on := 21, ground := Ground.data }, { on := 6, ground := Ground.guard }], guard := some (6, false) } : Oper)) (v := ?_) rfl (by kernel_rfl) (by kernel_rfl) (by kernel_rfl) (fun _ _ _ h => h) (Or.inl ⟨by rfl, ?_⟩) (by assumption) ?_
            rotate_left 1
            · intro w hSw
              obtain ⟨_, s0, s1, _, s2, _⟩ := hSw
              go_simp
              (try with_reducible rfl)
            (try simp only [Act.put, List.setIfInBounds_toArray, List.set_cons_zero, List.set_cons_succ])
            refine wpAnyH_take (i := 23) (oi := ({ dst := some 111, op := Op.pick (Operand.tmp 94) (Operand.const (Value.bool true)) (Operand.tmp 110), type := 4, pos := "law.go:153", after := #[{ on := 6, ground := Ground.data }, { on := 22, ground := Ground.data }], guard := none } : Oper)) (v := ?_) rfl (by kernel_rfl) (by kernel_rfl) (by kernel_rfl) (fun _ _ _ h => h) (Or.inl ⟨by rfl, ?_⟩) (by assumption) ?_
            rotate_left 1
            · intro w hSw
              obtain ⟨_, s0, s1, _, s2, _⟩ := hSw
              go_simp
              (try with_reducible rfl)
            (try simp only [Act.put, List.setIfInBounds_toArray, List.set_cons_zero, List.set_cons_succ])
            refine wpAnyH_done (by kernel_rfl) ?_ _
            refine NoPanic.normal ?_
            have HBl := Lib.hid hS3.bel
            clear hHeld hS0 hS3
            go_wp2_with fail
            go_roundw
            case rel => exact ⟨k + 1, by omega, by go_num, HBl⟩
            case measure => simp [intOf]; omega
        · have hbw := bt Hb2.out Hb2.out.size hbel.out
          have Hbw := Lib.hid hbw
          have I1 := Lib.hid (RIn_any Au cu mu u t wr (HSu2.out.on hbel.out) Hmu.out)
          have I2 := Lib.hid (RIn_any A c m a t wr (HA2.out.on hbel.out) Ham.out)
          have I3 := Lib.hid (RIn_any Am cm mm ml t wr (HSm.out.on hbel.out) Hmm.out)
          have I4 := Lib.hid (RIn_any A2 c2 m2 b t wr (HB2.out.on hbel.out) Hbm.out)
          have q1 : T.inB u t = T.inB a t := T.inB_eq (HCu.out.at_ t)
          have q2 : T.inB ml t = (T.inB a t && !T.inB b t) := by
            rw [Bool.eq_iff_iff, Bool.and_eq_true, Bool.not_eq_true', T.inB_iff, T.inB_iff, HCm.out.at_ t, ← Bool.not_eq_true, T.inB_iff]
          rw [q1] at I1
          rw [q2] at I3
          have HW := Lib.hid (awake_any wr (HT.out.on hbw))
          unfold BoolPost at I1 I2 I3 I4
          clear q1 q2 hbw hbel hbl0
          by_cases ht : t < 0
          · clear I1 I2 I3 I4
            go_wp2_with fail
            refine HW.out.mono ?_
            rintro e w13 ⟨rfl, hb⟩
            have hb13 := bt Hbw.out Hbw.out.size hb
            go_wp2_with fail
            go_ret
            exact ⟨rfl, hb13⟩
          · cases qa : T.inB a t
            · rw [qa] at I1 I2 I3
              rw [Bool.false_and] at I3
              clear qa
              go_wp2_with fail
              refine I1.out.mono ?_
              rintro e w' ⟨rfl, rfl⟩
              go_wp2_with fail
              refine I2.out.mono ?_
              rintro e w' ⟨rfl, rfl⟩
              go_wp2_with fail
              refine I3.out.mono ?_
              rintro e w' ⟨rfl, rfl⟩
              go_wp2_with fail
              refine I2.out.mono ?_
              rintro e w' ⟨rfl, rfl⟩
              go_wp2_with fail
              refine HW.out.mono ?_
              rintro e w13 ⟨rfl, hb⟩
              have hb13 := bt Hbw.out Hbw.out.size hb
              go_wp2_with fail
              go_ret
              exact ⟨rfl, hb13⟩
            · rw [qa] at I1 I2 I3
              rw [Bool.true_and] at I3
              cases qb : T.inB b t
              all_goals
                rw [qb] at I3 I4
                first | rw [Bool.not_false] at I3 | rw [Bool.not_true] at I3
                clear qa qb
                go_wp2_with fail
                refine I1.out.mono ?_
                rintro e w' ⟨rfl, rfl⟩
                go_wp2_with fail
                refine I2.out.mono ?_
                rintro e w' ⟨rfl, rfl⟩
                go_wp2_with fail
                refine I3.out.mono ?_
                rintro e w' ⟨rfl, rfl⟩
                go_wp2_with fail
                refine I2.out.mono ?_
                rintro e w' ⟨rfl, rfl⟩
                go_wp2_with fail
                refine I4.out.mono ?_
                rintro e w' ⟨rfl, rfl⟩
                go_wp2_with fail
                refine HW.out.mono ?_
                rintro e w13 ⟨rfl, hb⟩
                have hb13 := bt Hbw.out Hbw.out.size hb
                go_wp2_with fail
                go_ret
                exact ⟨rfl, hb13⟩
theorem T.listsE_ne {m m2 : Nat} {a b : List SV} (ha : ∀ s ∈ a, R64 s.1 ∧ R64 s.2) (hb : ∀ s ∈ b, R64 s.1 ∧ R64 s.2) (h : listE m a ≠ 0) : listsE m m2 a b ≠ 0 := fun k => by
  have g := listsE_good k ha hb
  exact h (listE_of g.1 g.2.2.1)
theorem sets_off (A A2 : Option Addr) (c c2 m m2 : Nat) (a b : List SV) (t : Int) (w : World) (hT : Tab w) (ha : SpIn w w.heap.size A c a) (hb : SpIn w w.heap.size A2 c2 b) (ham : a.length = m) (hbm : b.length = m2) (hf : T.farV m = false) (hf2 : T.farV m2 = false) (hE : T.listsE m m2 a b ≠ 0) :
    Calls Tryd.prog 8 #[.slice A m c, .slice A2 m2 c2, .int .i64 t] w fun e w' => e = .returned (.bool true) ∧ Below w.heap.size w w' := by
  have HT := Lib.hid hT
  have HU := Lib.hid (Union_any A c m a w ha ham)
  have HM := Lib.hid (fun w h h2 => Minus_any A A2 c c2 m m2 a b w h h2 ham hbm)
  have HA := Lib.hid ha
  have HB := Lib.hid hb
  have F1 := Lib.hid (fun w => far_any A c m w)
  have F2 := Lib.hid (fun w => far_any A2 c2 m2 w)
  rw [hf] at F1
  rw [hf2] at F2
  generalize T.listE m a = E1 at HU
  generalize T.listsE m m2 a b = E2 at HM hE
  clear hT ha hb ham hbm hf hf2
  have h2 : (E2 == (0 : Int)) = false := by rw [beq_eq_false_iff_ne]; exact hE
  have HE := Lib.hid hE
  clear hE
  go_enter Tryd.func8, Tryd.ntmps8
  go_wp2_with fail
  refine (F1.out _).mono ?_
  rintro e w' ⟨rfl, rfl⟩
  go_wp2_with fail
  refine (F2.out _).mono ?_
  rintro e w' ⟨rfl, rfl⟩
  go_wp2_with fail
  refine HU.out.mono ?_
  rintro e w1 ⟨v1, u, rfl, hown, _, hu, _, hb1⟩
  have HM1 := Lib.hid (HM.out w1 (HA.out.on hb1) (HB.out.on hb1))
  have Hu := Lib.hid hu
  have Hown := Lib.hid hown
  clear hu hown
  go_wp2_with fail
  refine HM1.out.mono ?_
  rintro e w2 ⟨v2, u2, rfl, hown2, _, hu2, _, hb⟩
  have hb2 := bt hb1 hb1.size hb
  have HW := Lib.hid (awake_any w2 (HT.out.on hb2))
  obtain rfl := hu2 HE.out
  have Hown2 := Lib.hid hown2
  clear hb hb1 hu2 hown2
  by_cases h1 : E1 = 0
  · subst h1
    rcases own_form_nil Hown2.out with rfl | ⟨g, cap, rfl⟩
    all_goals
      go_wp2_with fail
      refine HW.out.mono ?_
      rintro e w13 ⟨rfl, hb⟩
      have hb13 := bt hb2 hb2.size hb
      go_wp2_with fail
      go_ret
      exact ⟨rfl, hb13⟩
  · have h1' : (E1 == (0 : Int)) = false := by rw [beq_eq_false_iff_ne]; exact h1
    obtain rfl := Hu.out h1
    clear h1
    rcases own_form_nil Hown2.out with rfl | ⟨g, cap, rfl⟩
    all_goals
      rcases own_form_nil Hown.out with rfl | ⟨g', cap', rfl⟩
      all_goals
        go_wp2_with fail
        refine HW.out.mono ?_
        rintro e w13 ⟨rfl, hb⟩
        have hb13 := bt hb2 hb2.size hb
        go_wp2_with fail
        go_ret
        exact ⟨rfl, hb13⟩
theorem sets_far (A A2 : Option Addr) (c c2 m m2 : Nat) (t : Int) (w : World) (hT : Tab w) (hf : T.farV m = true ∨ (T.farV m = false ∧ T.farV m2 = true)) :
    Calls Tryd.prog 8 #[.slice A m c, .slice A2 m2 c2, .int .i64 t] w fun e w' => e = .returned (.bool true) ∧ Below w.heap.size w w' := by
  have HW := Lib.hid (awake_any w hT)
  have F1 := Lib.hid (fun w => far_any A c m w)
  have F2 := Lib.hid (fun w => far_any A2 c2 m2 w)
  clear hT
  rcases hf with hf | ⟨hf, hf2⟩
  · rw [hf] at F1
    clear hf
    go_enter Tryd.func8, Tryd.ntmps8
    go_wp2_with fail
    refine (F1.out _).mono ?_
    rintro e w' ⟨rfl, rfl⟩
    go_wp2_with fail
    refine HW.out.mono ?_
    rintro e w13 ⟨rfl, hb⟩
    go_wp2_with fail
    go_ret
    exact ⟨rfl, hb⟩
  · rw [hf] at F1
    rw [hf2] at F2
    clear hf hf2
    go_enter Tryd.func8, Tryd.ntmps8
    go_wp2_with fail
    refine (F1.out _).mono ?_
    rintro e w' ⟨rfl, rfl⟩
    go_wp2_with fail
    refine (F2.out _).mono ?_
    rintro e w' ⟨rfl, rfl⟩
    go_wp2_with fail
    refine HW.out.mono ?_
    rintro e w13 ⟨rfl, hb⟩
    go_wp2_with fail
    go_ret
    exact ⟨rfl, hb⟩
theorem TimesSets_walk (A A2 : Option Addr) (c c2 m m2 : Nat) (a b : List SV) (t : Int) (w : World) (hT : Tab w) (ha : SpIn w w.heap.size A c a) (hb : SpIn w w.heap.size A2 c2 b) (ham : a.length = m) (hbm : b.length = m2) :
    Calls Tryd.prog 8 #[.slice A m c, .slice A2 m2 c2, .int .i64 t] w fun e w' => e = .returned (.bool true) ∧ Below w.heap.size w w' := by
  cases hf : T.farV m
  · cases hf2 : T.farV m2
    · by_cases hE : T.listsE m m2 a b = 0
      · have g := T.listsE_good hE ha.nums hb.nums
        have k := T.small_of hf hf2 g.1 g.2.1
        exact sets_main A A2 c c2 m m2 a b t w hT ha hb ham hbm hf hf2 k.1 k.2 g.2.2.1 g.2.2.2
      · exact sets_off A A2 c c2 m m2 a b t w hT ha hb ham hbm hf hf2 hE
    · exact sets_far A A2 c c2 m m2 t w hT (Or.inr ⟨hf, hf2⟩)
  · exact sets_far A A2 c c2 m m2 t w hT (Or.inl hf)
end Go.Proofs.YteeibhooppmbmaaDoor
