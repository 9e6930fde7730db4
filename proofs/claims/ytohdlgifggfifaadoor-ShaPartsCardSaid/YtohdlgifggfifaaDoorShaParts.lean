/- The walk of ShaParts. -/
import Derived.Test.YtohdlgifggfifaaDoorShaEq
import Derived.Deep.RegionHeld3
namespace Go.Proofs.YtohdlgifggfifaaDoor
open Go.RowKit
/-- A slice of slices of bytes that reads as a list of lists. -/
structure PartsIn (w : World) (B : Nat) (A : Option Addr) (ps : List (List UInt8)) : Prop where
  cells : ∀ i l, ps[i]? = some l → ∃ ad, A = some ad ∧ ad.block < B ∧ ∃ Ai ci, w.cell? (ad.add i) = some (.slice Ai l.length ci) ∧ BytesIn w B Ai ci l
theorem PartsIn.below {w w' : World} {B : Nat} {A : Option Addr} {ps : List (List UInt8)} (h : PartsIn w B A ps) (hb : Below B w w') : PartsIn w' B A ps :=
  ⟨fun i l hl => by
    obtain ⟨ad, h1, h2, Ai, ci, h3, h4⟩ := h.cells i l hl
    exact ⟨ad, h1, h2, Ai, ci, (hb.cell (by rw [add_block]; exact h2)).trans h3, h4.below hb⟩⟩
theorem own_but {w w1 : World} {base B : Nat} {e : TypeId} {size : Nat} {v : Value} {n : Nat} {xs : List Value} (h : w.ownsRow base e size v n xs) (hb : S.But B w w1) (hB : B < base) : w1.ownsRow base e size v n xs := by
  refine ⟨h.1, ?_⟩
  rcases h.2 with h | ⟨g, cap, cur, h1, h2, h3, h4⟩
  · exact Or.inl h
  · exact Or.inr ⟨g, cap, cur, h1, h2, (hb.block g (Array.getElem?_eq_some_iff.1 h3).1 (by omega)).trans h3, h4⟩
namespace S
def cat (ps : List (List UInt8)) (k : Nat) : List UInt8 := (ps.take k).flatten
theorem cat_next {ps : List (List UInt8)} {k : Nat} {l : List UInt8} (h : ps[k]? = some l) : cat ps (k + 1) = cat ps k ++ l := by
  unfold cat
  have hk := (List.getElem?_eq_some_iff.1 h).1
  have he := (List.getElem?_eq_some_iff.1 h).2
  rw [List.take_succ_eq_append_getElem hk, he, List.flatten_append, List.flatten_cons, List.flatten_nil, List.append_nil]
end S
set_option linter.unusedSimpArgs false in
set_option maxRecDepth 100000 in
set_option maxHeartbeats 4000000 in
theorem ShaParts_walk (A : Option Addr) (c : Nat) (ps : List (List UInt8)) (w : World) (hK : S.SLaid w) (hps : PartsIn w w.heap.size A ps) (hl : ps.length ≤ 9223372036854775807) :
    Calls Tryd.prog 7 #[.slice A ps.length c] w fun e w' => e = .returned (.bool true) ∧ Below w.heap.size w w' := by
  have h2 := hK.lt.1
  have HK := Lib.hid hK
  clear hK
  obtain ⟨n, hn⟩ : ∃ n, n = ps.length := ⟨_, rfl⟩
  rw [← hn] at hl ⊢
  have HN := Lib.hid hn
  clear hn
  by_cases h10 : n ≤ 10
  · go_enter Tryd.func7, Tryd.ntmps7
    go_wp2_with fail
    refine (New_any _ HK.out).mono ?_
    rintro e w1 ⟨B, rfl, hh1, hb1, hB⟩
    have hB1 := hh1.lt
    have HB1 := Lib.hid hb1
    clear hb1
    go_wp2_with fail
    have hn0 : w1.ownsRow w1.heap.size 5 1 (.slice none 0 0) (S.cat ps 0).length ((S.cat ps 0).map S.byteV) := World.ownsRow_nil _ _ _ _
    have hle1 := HB1.out.size
    go_loopw [4, 5] (fun v i wr => ∃ k : Nat, k ≤ n ∧ i = .int .i64 k ∧ wr.ownsRow w1.heap.size 5 1 v (S.cat ps k).length ((S.cat ps k).map S.byteV) ∧ (S.cat ps k).length ≤ 300 * k ∧ S.HashAt wr B (S.cat ps k) ∧ Below w.heap.size w wr ∧ w1.heap.size ≤ wr.heap.size) (fun _ i _ => n - (intOf i).toNat)
    case atStart => exact ⟨0, Nat.zero_le _, rfl, hn0, by simp [S.cat], hh1, HB1.out, Nat.le_refl _⟩
    case round =>
      clear hn0 hh1
      obtain ⟨k, hk, rfl, hown, hcl, hh, hbel, hsz⟩ := hrel
      by_cases hlt : k < n
      · have hget : ps[k]? = some ps[k] := List.getElem?_eq_getElem (by rw [← HN.out]; exact hlt)
        obtain ⟨ad, rfl, hadB, Ai, ci, hcell, hin⟩ := hps.cells k _ hget
        have hcat := S.cat_next hget
        generalize ps[k] = l at hget hcell hin hcat
        have hcell' := (hbel.cell (p := ad.add k) (by rw [add_block]; exact hadB)).trans hcell
        have hin' := hin.below hbel
        obtain ⟨m, hm⟩ : ∃ m, m = l.length := ⟨_, rfl⟩
        rw [← hm] at hcell'
        have HM := Lib.hid hm
        have hmc := hin'.le
        have hmcap := hin'.cap
        unfold maxLen at hmcap
        rw [← hm] at hmc
        have HC := Lib.hid hcat
        clear hget hcell hin hcat hm
        by_cases h300 : m ≤ 300
        · have hcat2 : (S.cat ps k ++ l).length ≤ 300 * (k + 1) := by rw [List.length_append, ← HM.out]; omega
          have hlb : l.length ≤ 300 := by rw [← HM.out]; exact h300
          generalize S.cat ps k = done at hown hcl hh HC hcat2
          go_wp2_with fail
          rw [HM.out]
          have hin2 := hin'.more (B' := wr.heap.size) hbel.size
          refine (Write_any B done Ai ci l wr (HK.out.below hbel (by omega)) (by omega) hh hin2 (fun h0 ad' e => by obtain ⟨x, t, rfl⟩ := List.exists_cons_of_ne_nil (List.ne_nil_of_length_pos h0); have := (hin'.cells ad' e 0 x rfl).1; omega) (by omega)).mono ?_
          rintro e w2 ⟨rfl, hh2, hbut2⟩
          have hown2 := own_but hown hbut2 hB1
          have hb2 := hbel.trans (hbut2.below (C := w.heap.size) (by omega) hbel.size)
          have hin3 := hin'.below (hbut2.below (C := w.heap.size) (by omega) hbel.size)
          have hcell2 : w2.cell? (ad.add k) = some (.slice Ai m ci) := ((hbut2.below (C := w.heap.size) (by omega) hbel.size).cell (p := ad.add k) (by rw [add_block]; exact hadB)).trans hcell'
          have hsz2 := Nat.le_trans hsz hbut2.size
          clear hcell' hown hh hbut2 hin2 hbel hsz
          rw [← HM.out]
          go_wp2_with (at_builtin; refine push_bytes w2 w2 rfl (.tmp 35) (.tmp 39) rfl w1.heap.size _ done rfl hown2 w.heap.size Ai ci m l HM.out rfl hin3 hsz2 (Below.refl _ _) (by omega) (by omega) ?_; intro v3 w3 hown3 hb3 hg3; have hh3 := hh2.below hb3 hB1; clear hg3 hcell2)
          have hb3' := hb2.trans (hb3.mono hle1)
          have hsz3 := Nat.le_trans hsz2 hb3.size
          have hl3 : (done ++ l).length ≤ 3300 := by omega
          have hfull := hcat2
          rw [← HC.out] at hh3 hown3 hl3 hfull
          obtain ⟨full, HC'⟩ : ∃ full, Hid (S.cat ps (k + 1) = full) := ⟨_, Lib.hid rfl⟩
          rw [HC'.out] at hh3 hown3 hl3 hfull
          clear HC hcat2 hh2 hb2 hown2 hin3 hin' hb3
          refine (HSum_any B full w3 (HK.out.below hb3' (by omega)) hh3 (by omega)).mono ?_
          rintro e w4 ⟨rfl, hb4⟩
          have hh4 := hh3.below hb4 hh3.lt
          have hown4 := own_below hown3 hb4
          have hb4' := hb3'.trans (hb4.mono hb3'.size)
          have hsz4 := Nat.le_trans hsz3 hb4.size
          clear hh3 hown3 hb4 hb3'
          obtain ⟨A3, c3, rfl, _⟩ := S.own_slice hown4
          obtain ⟨D, HD⟩ : ∃ D, Hid (D = S.digV full) := ⟨_, Lib.hid rfl⟩
          have HDl := Lib.hid (show D.length = 32 by rw [HD.out, S.digV_len])
          have HDi := Lib.hid (show (Tryd.prog.info? 32).map (·.size) = some D.toArray.size by rw [HD.out]; exact S.digV_info _)
          have HD1 := Lib.hid (show D.toArray.all (·.oneCell') = true by rw [HD.out]; exact S.digV_one _)
          have heq : ∀ W, (Op.equalIn 10000 32 (.agg D.toArray) (.agg D.toArray)).run Tryd.prog W = .ok true W := fun W => by rw [HD.out]; exact S.eq_d32 _ (S.digest_len _) W
          have hgd := S.guard_d32
          rw [← HD.out]
          go_wp2_with (refine S.wpList_store_but rfl 32 (.tmp 7) (.tmp 44) rfl w4.heap.size D rfl rfl _ _ (S.Row.made (l := (List.replicate 32 (0 : UInt8)).map S.byteV) _ _ _ rfl rfl) HDi.out (by rw [HDl.out]; rfl) HD1.out ?_; intro w5 hr5 hbut5; have hb45 := ((Below.refl w4.heap.size w4).alloc (Nat.le_refl _) _).trans (hbut5.below (C := w4.heap.size) (Nat.le_refl _) (by simp)); have HB5 := Lib.hid (hb4'.trans (hb45.mono hb4'.size)); have hsz5 := Nat.le_trans hsz4 hb45.size; have hown5 := own_below hown4 hb45; have hh5 := hh4.below hb45 hh4.lt; clear hb45 hbut5 hh4 hown4 hb4')
          refine (Len_any B full _ hh5).mono ?_
          rintro e w' ⟨rfl, rfl⟩
          have hin5 : BytesIn w5.drew w5.drew.heap.size A3 c3 full := (BytesIn.of_own hown5).drewN 1
          have hlaid := Lib.hid (HK.out.below (HB5.out.drew) (by omega))
          go_wp2_with fail
          refine wp_region_noPanic ?_
          refine wp_region_held_drew (S := fun W => S.Row W w4.heap.size 32 D) (by kernel_rfl) hr5 (fun hHeld => ?_)
          refine wpAnyH_take (i := 0) (oi := ({ dst := some 51, op := Op.move (Operand.tmp 6), type := 35, pos := "law.go:64", after := #[], guard := none } : Oper)) (v := ?_) rfl (by kernel_rfl) (by kernel_rfl) (by kernel_rfl) (fun _ _ _ h => h) (Or.inl ⟨by rfl, ?_⟩) (by assumption) ?_
          rotate_left 1
          · intro w hSw
            (try dsimp only at hSw)
            go_simp
            (try with_reducible rfl)
          (try simp only [Act.put, List.setIfInBounds_toArray, List.set_cons_zero, List.set_cons_succ])
          refine wpAnyH_take (i := 1) (oi := ({ dst := some 52, op := Op.binOp BinOp.neq 35 (Operand.tmp 51) (Operand.const (Value.int IntKind.i64 0)) 35, type := 4, pos := "law.go:64", after := #[{ on := 0, ground := Ground.data }], guard := none } : Oper)) (v := ?_) rfl (by kernel_rfl) (by kernel_rfl) (by kernel_rfl) (fun _ _ _ h => h) (Or.inl ⟨by rfl, ?_⟩) (by assumption) ?_
          rotate_left 1
          · intro w hSw
            (try dsimp only at hSw)
            go_simp
            (try with_reducible rfl)
          (try simp only [Act.put, List.setIfInBounds_toArray, List.set_cons_zero, List.set_cons_succ])
          refine wpAnyH_take (i := 2) (oi := ({ dst := some 53, op := Op.move (Operand.tmp 52), type := 4, pos := "law.go:64", after := #[{ on := 1, ground := Ground.data }], guard := none } : Oper)) (v := ?_) rfl (by kernel_rfl) (by kernel_rfl) (by kernel_rfl) (fun _ _ _ h => h) (Or.inl ⟨by rfl, ?_⟩) (by assumption) ?_
          rotate_left 1
          · intro w hSw
            (try dsimp only at hSw)
            go_simp
            (try with_reducible rfl)
          (try simp only [Act.put, List.setIfInBounds_toArray, List.set_cons_zero, List.set_cons_succ])
          refine wpAnyH_take (i := 3) (oi := ({ dst := some 54, op := Op.move (Operand.tmp 8), type := 35, pos := "law.go:64", after := #[{ on := 2, ground := Ground.guard }], guard := some (2, false) } : Oper)) (v := ?_) rfl (by kernel_rfl) (by kernel_rfl) (by kernel_rfl) (fun _ _ _ h => h) (Or.inl ⟨by rfl, ?_⟩) (by assumption) ?_
          rotate_left 1
          · intro w hSw
            (try dsimp only at hSw)
            go_simp
            (try with_reducible rfl)
          (try simp only [Act.put, List.setIfInBounds_toArray, List.set_cons_zero, List.set_cons_succ])
          refine wpAnyH_take (i := 4) (oi := ({ dst := some 55, op := Op.binOp BinOp.neq 35 (Operand.tmp 54) (Operand.const (Value.int IntKind.i64 0)) 35, type := 4, pos := "law.go:64", after := #[{ on := 3, ground := Ground.data }, { on := 2, ground := Ground.guard }], guard := some (2, false) } : Oper)) (v := ?_) rfl (by kernel_rfl) (by kernel_rfl) (by kernel_rfl) (fun _ _ _ h => h) (Or.inl ⟨by rfl, ?_⟩) (by assumption) ?_
          rotate_left 1
          · intro w hSw
            (try dsimp only at hSw)
            go_simp
            (try with_reducible rfl)
          (try simp only [Act.put, List.setIfInBounds_toArray, List.set_cons_zero, List.set_cons_succ])
          refine wpAnyH_take (i := 5) (oi := ({ dst := some 56, op := Op.pick (Operand.tmp 53) (Operand.const (Value.bool true)) (Operand.tmp 55), type := 4, pos := "law.go:64", after := #[{ on := 2, ground := Ground.data }, { on := 4, ground := Ground.data }], guard := none } : Oper)) (v := ?_) rfl (by kernel_rfl) (by kernel_rfl) (by kernel_rfl) (fun _ _ _ h => h) (Or.inl ⟨by rfl, ?_⟩) (by assumption) ?_
          rotate_left 1
          · intro w hSw
            (try dsimp only at hSw)
            go_simp
            (try with_reducible rfl)
          (try simp only [Act.put, List.setIfInBounds_toArray, List.set_cons_zero, List.set_cons_succ])
          refine wpAnyH_take (i := 6) (oi := ({ dst := some 57, op := Op.move (Operand.tmp 56), type := 4, pos := "law.go:64", after := #[{ on := 5, ground := Ground.data }, { on := 2, ground := Ground.chain }], guard := none } : Oper)) (v := ?_) rfl (by kernel_rfl) (by kernel_rfl) (by kernel_rfl) (fun _ _ _ h => h) (Or.inl ⟨by rfl, ?_⟩) (by assumption) ?_
          rotate_left 1
          · intro w hSw
            (try dsimp only at hSw)
            go_simp
            (try with_reducible rfl)
          (try simp only [Act.put, List.setIfInBounds_toArray, List.set_cons_zero, List.set_cons_succ])
          refine wpAnyH_take (i := 7) (oi := ({ dst := some 58, op := Op.move (Operand.tmp 10), type := 35, pos := "law.go:64", after := #[{ on := 6, ground := Ground.guard }], guard := some (6, false) } : Oper)) (v := ?_) rfl (by kernel_rfl) (by kernel_rfl) (by kernel_rfl) (fun _ _ _ h => h) (Or.inl ⟨by rfl, ?_⟩) (by assumption) ?_
          rotate_left 1
          · intro w hSw
            (try dsimp only at hSw)
            go_simp
            (try with_reducible rfl)
          (try simp only [Act.put, List.setIfInBounds_toArray, List.set_cons_zero, List.set_cons_succ])
          refine wpAnyH_take (i := 8) (oi := ({ dst := some 59, op := Op.binOp BinOp.neq 35 (Operand.tmp 58) (Operand.const (Value.int IntKind.i64 0)) 35, type := 4, pos := "law.go:64", after := #[{ on := 7, ground := Ground.data }, { on := 6, ground := Ground.guard }], guard := some (6, false) } : Oper)) (v := ?_) rfl (by kernel_rfl) (by kernel_rfl) (by kernel_rfl) (fun _ _ _ h => h) (Or.inl ⟨by rfl, ?_⟩) (by assumption) ?_
          rotate_left 1
          · intro w hSw
            (try dsimp only at hSw)
            go_simp
            (try with_reducible rfl)
          (try simp only [Act.put, List.setIfInBounds_toArray, List.set_cons_zero, List.set_cons_succ])
          refine wpAnyH_take (i := 9) (oi := ({ dst := some 60, op := Op.pick (Operand.tmp 57) (Operand.const (Value.bool true)) (Operand.tmp 59), type := 4, pos := "law.go:64", after := #[{ on := 6, ground := Ground.data }, { on := 8, ground := Ground.data }], guard := none } : Oper)) (v := ?_) rfl (by kernel_rfl) (by kernel_rfl) (by kernel_rfl) (fun _ _ _ h => h) (Or.inl ⟨by rfl, ?_⟩) (by assumption) ?_
          rotate_left 1
          · intro w hSw
            (try dsimp only at hSw)
            go_simp
            (try with_reducible rfl)
          (try simp only [Act.put, List.setIfInBounds_toArray, List.set_cons_zero, List.set_cons_succ])
          refine wpAnyH_take (i := 10) (oi := ({ dst := some 61, op := Op.move (Operand.tmp 60), type := 4, pos := "law.go:64", after := #[{ on := 9, ground := Ground.data }, { on := 6, ground := Ground.chain }], guard := none } : Oper)) (v := ?_) rfl (by kernel_rfl) (by kernel_rfl) (by kernel_rfl) (fun _ _ _ h => h) (Or.inl ⟨by rfl, ?_⟩) (by assumption) ?_
          rotate_left 1
          · intro w hSw
            (try dsimp only at hSw)
            go_simp
            (try with_reducible rfl)
          (try simp only [Act.put, List.setIfInBounds_toArray, List.set_cons_zero, List.set_cons_succ])
          refine wpAnyH_take (i := 11) (oi := ({ dst := some 62, op := Op.load 32 (Operand.tmp 7), type := 32, pos := "law.go:64", after := #[{ on := 10, ground := Ground.guard }], guard := some (10, false) } : Oper)) (v := .agg D.toArray) rfl (by kernel_rfl) (by kernel_rfl) (by kernel_rfl) (fun _ _ _ h => h) (Or.inl ⟨by rfl, ?_⟩) (by assumption) ?_
          · exact fun W hSw => S.run_load_part W _ _ _ (.tmp 7) rfl w4.heap.size 0 rfl D.toArray _ (fun j v hj => by rw [Nat.zero_add]; exact S.Row.cell hSw hj) Tryd.underlying32 rfl HDi.out
          (try simp only [Act.put, List.setIfInBounds_toArray, List.set_cons_zero, List.set_cons_succ])
          refine wpAnyH_take (i := 12) (oi := ({ dst := some 63, op := Op.move (Operand.tmp 4), type := 31, pos := "law.go:64", after := #[{ on := 10, ground := Ground.guard }], guard := some (10, false) } : Oper)) (v := ?_) rfl (by kernel_rfl) (by kernel_rfl) (by kernel_rfl) (fun _ _ _ h => h) (Or.inl ⟨by rfl, ?_⟩) (by assumption) ?_
          rotate_left 1
          · intro w hSw
            (try dsimp only at hSw)
            go_simp
            (try with_reducible rfl)
          (try simp only [Act.put, List.setIfInBounds_toArray, List.set_cons_zero, List.set_cons_succ])
          refine wpAnyH_ready (rs := [13]) (by kernel_rfl) (by simp) ?_
          refine AllReadyH.cons (o := ({ dst := some 64, op := Op.call { callee := Callee.value (Operand.func 19), args := #[Operand.tmp 63], argTypes := #[31] }, type := 32, pos := "law.go:64", after := #[{ on := 12, ground := Ground.data }, { on := 10, ground := Ground.chain }, { on := 10, ground := Ground.guard }], guard := some (10, false) } : Oper)) rfl (fun K hK => ?_) AllReadyH.nil
          go_simp
          refine (Sum_any A3 c3 full _ hlaid.out hin5 (by omega)).mono ?_
          rintro e w6 ⟨rfl, hb6⟩
          have hb6 : Below w5.heap.size w5 w6 := (Below.refl _ w5).drew.trans hb6
          have hr6 : S.Row w6 w4.heap.size 32 D := hr5.below hb6 hr5.lt
          have hown6 := own_below hown5 hb6
          have hh6 := hh5.below hb6 hh5.lt
          have hb6' := HB5.out.trans (hb6.mono HB5.out.size)
          rw [← HD.out]
          refine hK.out _ _ hr6 (fun _ => ?_)
          clear hK K hHeld
          (try simp only [Act.put, List.setIfInBounds_toArray, List.set_cons_zero, List.set_cons_succ])
          refine wpAnyH_take (i := 14) (oi := ({ dst := some 65, op := Op.binOp BinOp.neq 32 (Operand.tmp 62) (Operand.tmp 64) 32, type := 4, pos := "law.go:64", after := #[{ on := 11, ground := Ground.data }, { on := 13, ground := Ground.data }, { on := 10, ground := Ground.guard }], guard := some (10, false) } : Oper)) (v := ?_) rfl (by kernel_rfl) (by kernel_rfl) (by kernel_rfl) (fun _ _ _ h => h) (Or.inl ⟨by rfl, ?_⟩) (by assumption) ?_
          rotate_left 1
          · intro w hSw
            (try dsimp only at hSw)
            go_simp
            (try with_reducible rfl)
          (try simp only [Act.put, List.setIfInBounds_toArray, List.set_cons_zero, List.set_cons_succ])
          refine wpAnyH_take (i := 15) (oi := ({ dst := some 66, op := Op.pick (Operand.tmp 61) (Operand.const (Value.bool true)) (Operand.tmp 65), type := 4, pos := "law.go:64", after := #[{ on := 10, ground := Ground.data }, { on := 14, ground := Ground.data }], guard := none } : Oper)) (v := ?_) rfl (by kernel_rfl) (by kernel_rfl) (by kernel_rfl) (fun _ _ _ h => h) (Or.inl ⟨by rfl, ?_⟩) (by assumption) ?_
          rotate_left 1
          · intro w hSw
            (try dsimp only at hSw)
            go_simp
            (try with_reducible rfl)
          (try simp only [Act.put, List.setIfInBounds_toArray, List.set_cons_zero, List.set_cons_succ])
          refine wpAnyH_take (i := 16) (oi := ({ dst := some 67, op := Op.move (Operand.tmp 66), type := 4, pos := "law.go:64", after := #[{ on := 15, ground := Ground.data }, { on := 13, ground := Ground.chain }], guard := none } : Oper)) (v := ?_) rfl (by kernel_rfl) (by kernel_rfl) (by kernel_rfl) (fun _ _ _ h => h) (Or.inl ⟨by rfl, ?_⟩) (by assumption) ?_
          rotate_left 1
          · intro w hSw
            (try dsimp only at hSw)
            go_simp
            (try with_reducible rfl)
          (try simp only [Act.put, List.setIfInBounds_toArray, List.set_cons_zero, List.set_cons_succ])
          refine wpAnyH_take (i := 17) (oi := ({ dst := some 68, op := Op.move (Operand.tmp 9), type := 2, pos := "law.go:64", after := #[{ on := 16, ground := Ground.guard }], guard := some (16, false) } : Oper)) (v := ?_) rfl (by kernel_rfl) (by kernel_rfl) (by kernel_rfl) (fun _ _ _ h => h) (Or.inl ⟨by rfl, ?_⟩) (by assumption) ?_
          rotate_left 1
          · intro w hSw
            (try dsimp only at hSw)
            go_simp
            (try with_reducible rfl)
          (try simp only [Act.put, List.setIfInBounds_toArray, List.set_cons_zero, List.set_cons_succ])
          refine wpAnyH_take (i := 18) (oi := ({ dst := some 69, op := Op.move (Operand.tmp 4), type := 31, pos := "law.go:64", after := #[{ on := 16, ground := Ground.guard }], guard := some (16, false) } : Oper)) (v := ?_) rfl (by kernel_rfl) (by kernel_rfl) (by kernel_rfl) (fun _ _ _ h => h) (Or.inl ⟨by rfl, ?_⟩) (by assumption) ?_
          rotate_left 1
          · intro w hSw
            (try dsimp only at hSw)
            go_simp
            (try with_reducible rfl)
          (try simp only [Act.put, List.setIfInBounds_toArray, List.set_cons_zero, List.set_cons_succ])
          refine wpAnyH_take (i := 19) (oi := ({ dst := some 70, op := Op.call { callee := Callee.builtin Builtin.len, args := #[Operand.tmp 69], argTypes := #[31] }, type := 3, pos := "law.go:64", after := #[{ on := 18, ground := Ground.data }, { on := 16, ground := Ground.guard }], guard := some (16, false) } : Oper)) (v := ?_) rfl (by kernel_rfl) (by kernel_rfl) (by kernel_rfl) (fun _ _ _ h => h) (Or.inl ⟨by rfl, ?_⟩) (by assumption) ?_
          rotate_left 1
          · intro w hSw
            (try dsimp only at hSw)
            go_simp
            (try with_reducible rfl)
          (try simp only [Act.put, List.setIfInBounds_toArray, List.set_cons_zero, List.set_cons_succ])
          refine wpAnyH_take (i := 20) (oi := ({ dst := some 71, op := Op.binOp BinOp.neq 2 (Operand.tmp 68) (Operand.tmp 70) 2, type := 4, pos := "law.go:64", after := #[{ on := 17, ground := Ground.data }, { on := 19, ground := Ground.data }, { on := 16, ground := Ground.guard }], guard := some (16, false) } : Oper)) (v := ?_) rfl (by kernel_rfl) (by kernel_rfl) (by kernel_rfl) (fun _ _ _ h => h) (Or.inl ⟨by rfl, ?_⟩) (by assumption) ?_
          rotate_left 1
          · intro w hSw
            (try dsimp only at hSw)
            go_simp
            (try with_reducible rfl)
          (try simp only [Act.put, List.setIfInBounds_toArray, List.set_cons_zero, List.set_cons_succ])
          refine wpAnyH_take (i := 21) (oi := ({ dst := some 72, op := Op.pick (Operand.tmp 67) (Operand.const (Value.bool true)) (Operand.tmp 71), type := 4, pos := "law.go:64", after := #[{ on := 16, ground := Ground.data }, { on := 20, ground := Ground.data }], guard := none } : Oper)) (v := ?_) rfl (by kernel_rfl) (by kernel_rfl) (by kernel_rfl) (fun _ _ _ h => h) (Or.inl ⟨by rfl, ?_⟩) (by assumption) ?_
          rotate_left 1
          · intro w hSw
            (try dsimp only at hSw)
            go_simp
            (try with_reducible rfl)
          (try simp only [Act.put, List.setIfInBounds_toArray, List.set_cons_zero, List.set_cons_succ])
          refine wpAnyH_done (by kernel_rfl) ?_ _
          refine NoPanic.normal ?_
          go_wp2_with fail
          go_roundw
          case rel =>
            have e1 := HC'.out
            first | exact ⟨k + 1, by omega, by go_num, by rw [e1]; exact hown6, by rw [e1]; exact hfull, by rw [e1]; exact hh6, hb6', Nat.le_trans hsz5 hb6.size⟩ | ((repeat apply Exists.intro); exact ⟨⟨k + 1, by omega, by go_num, by rw [e1]; exact hown6, by rw [e1]; exact hfull, by rw [e1]; exact hh6, hb6', Nat.le_trans hsz5 hb6.size⟩, rfl⟩)
          case measure => simp [intOf]; omega
        · have h300' : 300 < m := by omega
          clear h300
          go_wp2_with fail
          refine (shown_any _ (HK.out.below hbel (by omega))).mono ?_
          rintro e w3 ⟨rfl, hb3⟩
          have HB3 := Lib.hid (hbel.trans (hb3.mono hbel.size))
          clear hb3 hbel hown hh hin' hcell'
          go_wp2_with fail
          go_ret
          exact ⟨rfl, HB3.out⟩
      · obtain rfl : k = n := by omega
        have HB := Lib.hid hbel
        clear hbel hown hh hlt
        go_wp2_with fail
        refine (shown_any _ (HK.out.below HB.out (by omega))).mono ?_
        rintro e w3 ⟨rfl, hb3⟩
        have HB3 := Lib.hid (HB.out.trans (hb3.mono HB.out.size))
        clear hb3
        go_wp2_with fail
        go_ret
        exact ⟨rfl, HB3.out⟩
  · have h10' : 10 < n := by omega
    clear h10
    go_enter Tryd.func7, Tryd.ntmps7
    go_wp2_with fail
    refine (shown_any _ HK.out).mono ?_
    rintro e w3 ⟨rfl, hb3⟩
    go_wp2_with fail
    go_ret
    exact ⟨rfl, hb3⟩
end Go.Proofs.YtohdlgifggfifaaDoor
