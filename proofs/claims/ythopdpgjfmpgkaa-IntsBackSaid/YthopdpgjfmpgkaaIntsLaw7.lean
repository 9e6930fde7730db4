/- The walk of IntsBack. -/
import Derived.Test.YthopdpgjfmpgkaaIntsBMath
import Derived.Test.YthopdpgjfmpgkaaIntsRegion
import Derived.Deep.DrawnRows
namespace Go.Proofs.Ythopdpgjfmpgkaa
open Go.RowKit
attribute [local go_sem ↓] Go.wp_at_zero Go.wp_at_succ
theorem BytesIn.drew' {w : World} {B : Nat} {A : Option Addr} {c : Nat} {l : List UInt8} (h : BytesIn w B A c l) : BytesIn w.drew B A c l := ⟨h.le, h.cap, h.none_, h.cells⟩
/-- The number that was handed, in the block that the call made for it. -/
structure Box (w : World) (B P : Nat) (n : Int) (U : Nat) (b : Int) (sg : Bool) : Prop where
  c0 : w.cell? ⟨P, 0, none⟩ = some (.int .i64 n)
  c1 : w.cell? ⟨P, 1, none⟩ = some (.int .u64 U)
  c2 : w.cell? ⟨P, 2, none⟩ = some (.int .i64 b)
  c3 : w.cell? ⟨P, 3, none⟩ = some (.bool sg)
  lt : P < B
theorem Box.below {w w' : World} {B P : Nat} {n : Int} {U : Nat} {b : Int} {sg : Bool} (h : Box w B P n U b sg) (hb : Below B w w') : Box w' B P n U b sg :=
  ⟨by rw [hb.cell h.lt]; exact h.c0, by rw [hb.cell h.lt]; exact h.c1, by rw [hb.cell h.lt]; exact h.c2, by rw [hb.cell h.lt]; exact h.c3, h.lt⟩
theorem putL_len {U k : Nat} (h : I.putOk U k = true) : (I.putL [] U k).length = k := by rw [I.putL_yes h, List.nil_append, I.be_len]
theorem Zig_is (n z : Int) (h1 : -9223372036854775808 ≤ n) (h2 : n ≤ 9223372036854775807) (h : I.zigN n = z) (w : World) :
    Calls Try.prog 21 #[.int .i64 n] w fun e w' => e = .returned (.int .u64 z) ∧ w = w' := by
  rw [← h]; exact Zig_any n h1 h2 w
theorem Zag_is (N : Nat) (z : Int) (h2 : N < 18446744073709551616) (h : I.zagN N = z) (w : World) :
    Calls Try.prog 23 #[.int .u64 N] w fun e w' => e = .returned (.int .i64 z) ∧ w = w' := by
  rw [← h]; exact Zag_any N h2 w
theorem cat_list (a b : List UInt8) : ((⟨a.toArray⟩ : ByteArray) ++ ⟨b.toArray⟩).toList = a ++ b := by
  have : ((⟨a.toArray⟩ : ByteArray) ++ ⟨b.toArray⟩) = ⟨(a ++ b).toArray⟩ := by
    apply ByteArray.ext
    simp
  rw [this]
  simp
theorem cat_back {a b l : List UInt8} (h : a ++ b = l) : (((⟨a.toArray⟩ : ByteArray) ++ ⟨b.toArray⟩).toList == l) = true := by
  rw [cat_list, h]; exact beq_self_eq_true l
set_option linter.unusedSimpArgs false in
set_option maxRecDepth 100000 in
set_option maxHeartbeats 4000000 in
theorem IntsBack_walk (A : Option Addr) (c : Nat) (l : List UInt8) (n : Int) (U : Nat) (b : Int) (sg : Bool) (w : World) (hb : BytesIn w w.heap.size A c l) (hn1 : -9223372036854775808 ≤ n) (hn2 : n ≤ 9223372036854775807) (hU : U < 18446744073709551616) :
    Calls Try.prog 8 #[.slice A l.length c, .agg #[.int .i64 n, .int .u64 U, .int .i64 b, .bool sg]] w fun e w' => e = .returned (.bool true) ∧ Below w.heap.size w w' := by
  have hlc := hb.le
  have hcm := hb.cap
  unfold maxLen at hcm
  obtain ⟨wB, hwB⟩ : ∃ wB, wB = w.alloc (.cells #[.int .i64 n, .int .u64 U, .int .i64 b, .bool sg] 37) := ⟨_, rfl⟩
  have hba : Below w.heap.size w wB := by rw [hwB]; exact (Below.refl _ _).alloc (Nat.le_refl _) _
  have hbx : Box wB wB.heap.size w.heap.size n U b sg := by
    rw [hwB]
    exact ⟨by simp, by simp, by simp, by simp, by simp⟩
  have hbB := (hb.below hba).more hba.size
  have HBA := Lib.hid hba
  have HW := Lib.hid hwB
  clear hba hb hwB
  by_cases hbig : 100 < l.length
  · have hbig' : (100 : Int) < l.length := by omega
    go_enter Try.func8, Try.ntmps8
    go_wp2_with fail
    rw [← HW.out]
    refine (awake_any _).mono ?_
    rintro e w' ⟨rfl, hb⟩
    go_wp2_with fail
    go_ret
    exact ⟨rfl, HBA.out.trans (hb.mono HBA.out.size)⟩
  · have hbig' : ¬ (100 : Int) < l.length := by omega
    have hll : l.length ≤ 100 := by omega
    clear hbig
    go_enter Try.func8, Try.ntmps8
    go_wp2_with fail
    rw [← HW.out]
    go_loopw [5] (fun i wr => ∃ k : Nat, 1 ≤ k ∧ k ≤ 9 ∧ i = .int .i64 k ∧ Below wB.heap.size wB wr) (fun i _ => 9 - (intOf i).toNat)
    case atStart => exact ⟨1, by omega, by omega, rfl, Below.refl _ _⟩
    case round =>
      obtain ⟨k, hk1, hk9, rfl, hbel⟩ := hrel
      have hin := hbB.below hbel
      have hinr := hin.more hbel.size
      by_cases hk8 : k ≤ 8
      · have hways : k ≤ l.length ∨ ¬ k ≤ l.length := by omega
        have hputs : I.putOk U k = true ∨ I.putOk U k = false := by cases I.putOk U k <;> simp
        rcases hways with hkl | hkl
        · obtain ⟨g1, g2, g3⟩ := I.get_yes hk1 hk8 hkl
          obtain ⟨p1, p2⟩ := I.read_put hk1 hk8 hkl
          have hM := I.bv_64 hkl hk8
          obtain ⟨M, hMe⟩ : ∃ M, M = I.bv (l.take k) := ⟨_, rfl⟩
          obtain ⟨R, hRe⟩ : ∃ R, R = l.drop k := ⟨_, rfl⟩
          rw [← hMe] at g1 p1 p2 hM
          rw [← hRe] at g2 p2
          have hjl := congrArg List.length p2
          rw [List.length_append] at hjl
          obtain ⟨F, hFe⟩ : ∃ F, F = I.putL [] M k := ⟨_, rfl⟩
          rw [← hFe] at p2 hjl
          have HP := Lib.hid p2
          have HM := Lib.hid hMe
          have HF := Lib.hid hFe
          have HR := Lib.hid hRe
          have hkl' : (k : Int) ≤ l.length := by omega
          clear hMe hRe p2 hFe
          go_wp2_with fail
          refine (Get_any A c l k _ hinr).mono ?_
          rintro e w1 ⟨A1, n1, c1, rfl, hn1', hin1, hb1⟩
          rw [g2] at hn1' hin1
          rw [g1, g3]
          clear g1 g2 g3
          have HN1 := Lib.hid hn1'
          clear hn1'
          go_wp2_with fail
          refine (Put_any none 0 [] M k _ (BytesIn.nil_ _ _) (by simp)).mono ?_
          rintro e w2 ⟨v2, rfl, hown2, hb2⟩
          rw [← HF.out] at hown2
          rw [p1]
          rw [show I.errV true = 0 from rfl]
          have hkk1 := conv_own hown2
          have hkk2 := conv_slice HN1.out ((hin1.more hb1.size).below hb2)
          have hb02 := hb1.trans (hb2.mono hb1.size)
          have hkk3 := conv_in (hinr.below hb02)
          have hbelB := hbel.trans (hb02.mono hbel.size)
          have hc1 := (hbx.below hbelB).c1
          have hcat := cat_back HP.out
          go_wp2_with fail
          refine (Put_any none 0 [] U k _ (BytesIn.nil_ _ _) (by simp)).mono ?_
          rintro e w3 ⟨v3, rfl, hown3, hb3⟩
          clear hkk1 hkk2 hkk3 hcat hown2
          have hin2 := hin.below (hb02.mono hbel.size)
          have hb03 := hb02.trans (hb3.mono hb02.size)
          rcases hputs with hp | hp
          · have hg := I.put_read (l := l) hk1 hk8 hp
            have hPl := putL_len hp
            have hbel3 := hbelB.trans (hb3.mono hbelB.size)
            have hin3 := hin2.below (hb3.mono hbelB.size)
            have hown3' := own_base hown3 hbelB.size
            rw [hp]
            rw [show I.errV true = 0 from rfl]
            obtain ⟨X, hX⟩ : ∃ X, X = I.putL [] U k := ⟨_, rfl⟩
            rw [← hX] at hg hPl hown3'
            clear hown3 hp hX hbelB hc1 hb02
            have HG := Lib.hid hg
            clear hg
            go_wp2_with (at_builtin; refine push_bytes wB _ rfl (.tmp 74) (.tmp 75) rfl wB.heap.size v3 X rfl hown3' wB.heap.size A c _ l rfl rfl hin3 (Nat.le_refl _) hbel3 (by omega) (by omega) ?_; intro v4 w4 hown4 hb4 _)
            obtain ⟨A4, c4, rfl, hc4, hc4'⟩ := own_form hown4 (by rw [List.length_append]; omega)
            refine (Get_any A4 c4 (X ++ l) k _ (BytesIn.of_own hown4)).mono ?_
            rintro e w5 ⟨A5, n5, c5, rfl, hn5, hin5, hb5⟩
            rw [HG.out.2.1] at hn5 hin5
            rw [HG.out.1, HG.out.2.2]
            have hbel5 := hb4.trans (hb5.mono hb4.size)
            have hk5 := conv_slice hn5 hin5
            have hk6 := conv_in (hbB.below hbel5)
            have hc5 := (hbx.below hbel5).c1
            clear hin3 hown3' hb4 hown4 hbel3 hb03 hb3 hb1 hb2 hin2 hin1 hin5 hn5
            go_wp2_with fail
            go_roundw
            case rel => exact ⟨k + 1, by omega, by omega, by go_num, hbel5⟩
            case measure => simp [intOf]; omega
          · have hbel3 := hbelB.trans (hb3.mono hbelB.size)
            rw [hp]
            rw [show I.errV false = 7 from rfl]
            clear hb03 hb3 hb1 hb2 hin2 hin1 hown3 hc1 hb02
            go_wp2_with fail
            go_roundw
            case rel => exact ⟨k + 1, by omega, by omega, by go_num, hbel3⟩
            case measure => simp [intOf]; omega
        · obtain ⟨g1, g2, g3⟩ := I.get_more (l := l) hk1 hk8 (by omega)
          have hkl' : ¬ (k : Int) ≤ l.length := by omega
          go_wp2_with fail
          refine (Get_any A c l k _ hinr).mono ?_
          rintro e w1 ⟨A1, n1, c1, rfl, hn1', hin1, hb1⟩
          rw [g1, g3]
          clear g1 g2 g3 hn1' hin1
          have hbelB := hbel.trans (hb1.mono hbel.size)
          have hc1 := (hbx.below hbelB).c1
          have hin2 := hin.below (hb1.mono hbel.size)
          go_wp2_with fail
          refine (Put_any none 0 [] U k _ (BytesIn.nil_ _ _) (by simp)).mono ?_
          rintro e w3 ⟨v3, rfl, hown3, hb3⟩
          rcases hputs with hp | hp
          · have hg := I.put_read (l := l) hk1 hk8 hp
            have hPl := putL_len hp
            have hbel3 := hbelB.trans (hb3.mono hbelB.size)
            have hin3 := hin2.below (hb3.mono hbelB.size)
            have hown3' := own_base hown3 hbelB.size
            rw [hp]
            rw [show I.errV true = 0 from rfl]
            obtain ⟨X, hX⟩ : ∃ X, X = I.putL [] U k := ⟨_, rfl⟩
            rw [← hX] at hg hPl hown3'
            clear hown3 hp hX hbelB hc1
            have HG := Lib.hid hg
            clear hg
            go_wp2_with (at_builtin; refine push_bytes wB _ rfl (.tmp 74) (.tmp 75) rfl wB.heap.size v3 X rfl hown3' wB.heap.size A c _ l rfl rfl hin3 (Nat.le_refl _) hbel3 (by omega) (by omega) ?_; intro v4 w4 hown4 hb4 _)
            obtain ⟨A4, c4, rfl, hc4, hc4'⟩ := own_form hown4 (by rw [List.length_append]; omega)
            refine (Get_any A4 c4 (X ++ l) k _ (BytesIn.of_own hown4)).mono ?_
            rintro e w5 ⟨A5, n5, c5, rfl, hn5, hin5, hb5⟩
            rw [HG.out.2.1] at hn5 hin5
            rw [HG.out.1, HG.out.2.2]
            have hbel5 := hb4.trans (hb5.mono hb4.size)
            have hk5 := conv_slice hn5 hin5
            have hk6 := conv_in (hbB.below hbel5)
            have hc5 := (hbx.below hbel5).c1
            clear hin3 hown3' hb4 hown4 hbel3 hb3 hb1 hin2 hin5 hn5
            go_wp2_with fail
            go_roundw
            case rel => exact ⟨k + 1, by omega, by omega, by go_num, hbel5⟩
            case measure => simp [intOf]; omega
          · have hbel3 := hbelB.trans (hb3.mono hbelB.size)
            rw [hp]
            rw [show I.errV false = 7 from rfl]
            clear hb3 hb1 hin2 hown3 hc1
            go_wp2_with fail
            go_roundw
            case rel => exact ⟨k + 1, by omega, by omega, by go_num, hbel3⟩
            case measure => simp [intOf]; omega
      · obtain rfl : k = 9 := by omega
        clear hin hk1 hk9 hk8
        go_wp2_with fail
        refine (GetVar_any A c l _ hinr (by omega)).mono ?_
        rintro e w1 ⟨N1, A1, r1, c1, E1, rfl, hin1, hg1, hN1, hb1⟩
        have hbel1 := hbel.trans (hb1.mono hbel.size)
        have hr1 := (hin1.more hb1.size).drew'
        have hrA := ((hinr.below hb1).more hb1.size).drew'
        by_cases hE : E1 = 0
        · subst hE
          have hv := I.gv_vb hg1
          have hjl := congrArg List.length hv
          rw [List.length_append] at hjl
          have hcat := cat_back hv
          clear hg1 hv hin1 hinr
          have HB := Lib.hid hbel1.drew
          clear hbel1 hb1 hbel
          go_wp2_with fail
          refine wp_region_noPanic ?_
          refine wp_region_held_drew (S := fun w' => (convert 22 9 (.slice A1 r1.length c1)).run Try.prog w' = .ok (.string ⟨r1.toArray⟩) w' ∧ (convert 22 9 (.slice A l.length c)).run Try.prog w' = .ok (.string ⟨l.toArray⟩) w') (by kernel_rfl) ⟨conv_in hr1, conv_in hrA⟩ (fun hHeld => ?_)
          refine wpAnyH_take (i := 0) (oi := ({ dst := some 103, op := Op.move (Operand.tmp 15), type := 25, pos := "law.go:110", after := #[], guard := none } : Oper)) (v := ?_) rfl (by kernel_rfl) (by kernel_rfl) (by kernel_rfl) (fun _ _ _ h => h) (Or.inl ⟨by rfl, ?_⟩) (by assumption) ?_
          rotate_left 1
          · intro w hSw
            (try dsimp only at hSw)
            go_simp
            (try with_reducible rfl)
          (try simp only [Act.put, List.setIfInBounds_toArray, List.set_cons_zero, List.set_cons_succ])
          refine wpAnyH_take (i := 1) (oi := ({ dst := some 104, op := Op.binOp BinOp.eql 25 (Operand.tmp 103) (Operand.const (Value.int IntKind.i64 0)) 25, type := 4, pos := "law.go:110", after := #[{ on := 0, ground := Ground.data }], guard := none } : Oper)) (v := ?_) rfl (by kernel_rfl) (by kernel_rfl) (by kernel_rfl) (fun _ _ _ h => h) (Or.inl ⟨by rfl, ?_⟩) (by assumption) ?_
          rotate_left 1
          · intro w hSw
            (try dsimp only at hSw)
            go_simp
            (try with_reducible rfl)
          (try simp only [Act.put, List.setIfInBounds_toArray, List.set_cons_zero, List.set_cons_succ])
          refine wpAnyH_take (i := 2) (oi := ({ dst := some 105, op := Op.move (Operand.tmp 104), type := 4, pos := "law.go:110", after := #[{ on := 1, ground := Ground.data }], guard := none } : Oper)) (v := ?_) rfl (by kernel_rfl) (by kernel_rfl) (by kernel_rfl) (fun _ _ _ h => h) (Or.inl ⟨by rfl, ?_⟩) (by assumption) ?_
          rotate_left 1
          · intro w hSw
            (try dsimp only at hSw)
            go_simp
            (try with_reducible rfl)
          (try simp only [Act.put, List.setIfInBounds_toArray, List.set_cons_zero, List.set_cons_succ])
          refine wpAnyH_take (i := 3) (oi := ({ dst := some 106, op := Op.move (Operand.tmp 13), type := 23, pos := "law.go:110", after := #[{ on := 2, ground := Ground.guard }], guard := some (2, true) } : Oper)) (v := ?_) rfl (by kernel_rfl) (by kernel_rfl) (by kernel_rfl) (fun _ _ _ h => h) (Or.inl ⟨by rfl, ?_⟩) (by assumption) ?_
          rotate_left 1
          · intro w hSw
            (try dsimp only at hSw)
            go_simp
            (try with_reducible rfl)
          (try simp only [Act.put, List.setIfInBounds_toArray, List.set_cons_zero, List.set_cons_succ])
          refine wpAnyH_take (i := 6) (oi := ({ dst := some 109, op := Op.move (Operand.tmp 14), type := 22, pos := "law.go:110", after := #[{ on := 2, ground := Ground.guard }], guard := some (2, true) } : Oper)) (v := ?_) rfl (by kernel_rfl) (by kernel_rfl) (by kernel_rfl) (fun _ _ _ h => h) (Or.inl ⟨by rfl, ?_⟩) (by assumption) ?_
          rotate_left 1
          · intro w hSw
            (try dsimp only at hSw)
            go_simp
            (try with_reducible rfl)
          (try simp only [Act.put, List.setIfInBounds_toArray, List.set_cons_zero, List.set_cons_succ])
          refine wpAnyH_take (i := 7) (oi := ({ dst := some 110, op := Op.convert 22 9 (Operand.tmp 109), type := 9, pos := "law.go:110", after := #[{ on := 6, ground := Ground.data }, { on := 2, ground := Ground.guard }], guard := some (2, true) } : Oper)) (v := ?_) rfl (by kernel_rfl) (by kernel_rfl) (by kernel_rfl) (fun _ _ _ h => h) (Or.inl ⟨by rfl, ?_⟩) (by assumption) ?_
          rotate_left 1
          · intro w hSw
            (try dsimp only at hSw)
            go_simp
            (try with_reducible rfl)
          (try simp only [Act.put, List.setIfInBounds_toArray, List.set_cons_zero, List.set_cons_succ])
          refine wpAnyH_take (i := 9) (oi := ({ dst := some 112, op := Op.move (Operand.tmp 0), type := 22, pos := "law.go:110", after := #[{ on := 2, ground := Ground.guard }], guard := some (2, true) } : Oper)) (v := ?_) rfl (by kernel_rfl) (by kernel_rfl) (by kernel_rfl) (fun _ _ _ h => h) (Or.inl ⟨by rfl, ?_⟩) (by assumption) ?_
          rotate_left 1
          · intro w hSw
            (try dsimp only at hSw)
            go_simp
            (try with_reducible rfl)
          (try simp only [Act.put, List.setIfInBounds_toArray, List.set_cons_zero, List.set_cons_succ])
          refine wpAnyH_take (i := 10) (oi := ({ dst := some 113, op := Op.convert 22 9 (Operand.tmp 112), type := 9, pos := "law.go:110", after := #[{ on := 9, ground := Ground.data }, { on := 2, ground := Ground.guard }], guard := some (2, true) } : Oper)) (v := ?_) rfl (by kernel_rfl) (by kernel_rfl) (by kernel_rfl) (fun _ _ _ h => h) (Or.inl ⟨by rfl, ?_⟩) (by assumption) ?_
          rotate_left 1
          · intro w hSw
            (try dsimp only at hSw)
            go_simp
            (try with_reducible rfl)
          (try simp only [Act.put, List.setIfInBounds_toArray, List.set_cons_zero, List.set_cons_succ])
          refine wpAnyH_ready (rs := [4]) (by kernel_rfl) (by simp) ?_
          refine AllReadyH.cons (o := ({ dst := some 107, op := Op.call { callee := Callee.value (Operand.func 19), args := #[Operand.const (Value.slice none 0 0), Operand.tmp 106], argTypes := #[22, 23] }, type := 22, pos := "law.go:110", after := #[{ on := 3, ground := Ground.data }, { on := 2, ground := Ground.chain }, { on := 2, ground := Ground.guard }], guard := some (2, true) } : Oper)) rfl (fun K hK => ?_) AllReadyH.nil
          go_simp
          refine (PutVar_any none 0 [] N1 _ (BytesIn.nil_ _ _) (by simp) hN1).mono ?_
          rintro e w2 ⟨v2, rfl, hown2, hb2⟩
          rw [List.nil_append] at hown2
          have hbel2 := HB.out.trans (hb2.mono HB.out.size)
          have hS2 : ((convert 22 9 (.slice A1 r1.length c1)).run Try.prog w2 = .ok (.string ⟨r1.toArray⟩) w2 ∧ (convert 22 9 (.slice A l.length c)).run Try.prog w2 = .ok (.string ⟨l.toArray⟩) w2) ∧ (convert 22 9 v2).run Try.prog w2 = .ok (.string ⟨(I.vb N1).toArray⟩) w2 := ⟨⟨conv_in (hr1.below hb2), conv_in (hrA.below hb2)⟩, conv_own hown2⟩
          refine hK.out _ _ hS2.1 (fun _ => ?_)
          clear hK K
          (try simp only [Act.put, List.setIfInBounds_toArray, List.set_cons_zero, List.set_cons_succ])
          refine wpAnyH_more (S' := fun w' => ((convert 22 9 (.slice A1 r1.length c1)).run Try.prog w' = .ok (.string ⟨r1.toArray⟩) w' ∧ (convert 22 9 (.slice A l.length c)).run Try.prog w' = .ok (.string ⟨l.toArray⟩) w') ∧ (convert 22 9 v2).run Try.prog w' = .ok (.string ⟨(I.vb N1).toArray⟩) w') (fun _ h => h.1) ?_
          refine wpAnyH_take (i := 5) (oi := ({ dst := some 108, op := Op.convert 22 9 (Operand.tmp 107), type := 9, pos := "law.go:110", after := #[{ on := 4, ground := Ground.data }, { on := 2, ground := Ground.guard }], guard := some (2, true) } : Oper)) (v := ?_) rfl (by kernel_rfl) (by kernel_rfl) (by kernel_rfl) (fun _ _ _ h => h) (Or.inl ⟨by rfl, ?_⟩) (by assumption) ?_
          rotate_left 1
          · intro w hSw
            (try dsimp only at hSw)
            go_simp
            (try with_reducible rfl)
          (try simp only [Act.put, List.setIfInBounds_toArray, List.set_cons_zero, List.set_cons_succ])
          refine wpAnyH_take (i := 8) (oi := ({ dst := some 111, op := Op.binOp BinOp.add 9 (Operand.tmp 108) (Operand.tmp 110) 9, type := 9, pos := "law.go:110", after := #[{ on := 5, ground := Ground.data }, { on := 7, ground := Ground.data }, { on := 2, ground := Ground.guard }], guard := some (2, true) } : Oper)) (v := ?_) rfl (by kernel_rfl) (by kernel_rfl) (by kernel_rfl) (fun _ _ _ h => h) (Or.inl ⟨by rfl, ?_⟩) (by assumption) ?_
          rotate_left 1
          · intro w hSw
            (try dsimp only at hSw)
            go_simp
            rw [if_neg (by omega)]
          (try simp only [Act.put, List.setIfInBounds_toArray, List.set_cons_zero, List.set_cons_succ])
          refine wpAnyH_take (i := 11) (oi := ({ dst := some 114, op := Op.binOp BinOp.neq 9 (Operand.tmp 111) (Operand.tmp 113) 9, type := 4, pos := "law.go:110", after := #[{ on := 8, ground := Ground.data }, { on := 10, ground := Ground.data }, { on := 2, ground := Ground.guard }], guard := some (2, true) } : Oper)) (v := ?_) rfl (by kernel_rfl) (by kernel_rfl) (by kernel_rfl) (fun _ _ _ h => h) (Or.inl ⟨by rfl, ?_⟩) (by assumption) ?_
          rotate_left 1
          · intro w hSw
            (try dsimp only at hSw)
            go_simp
            (try with_reducible rfl)
          (try simp only [Act.put, List.setIfInBounds_toArray, List.set_cons_zero, List.set_cons_succ])
          refine wpAnyH_take (i := 12) (oi := ({ dst := some 115, op := Op.pick (Operand.tmp 105) (Operand.tmp 114) (Operand.const (Value.bool false)), type := 4, pos := "law.go:110", after := #[{ on := 2, ground := Ground.data }, { on := 11, ground := Ground.data }], guard := none } : Oper)) (v := ?_) rfl (by kernel_rfl) (by kernel_rfl) (by kernel_rfl) (fun _ _ _ h => h) (Or.inl ⟨by rfl, ?_⟩) (by assumption) ?_
          rotate_left 1
          · intro w hSw
            (try dsimp only at hSw)
            go_simp
            (try with_reducible rfl)
          (try simp only [Act.put, List.setIfInBounds_toArray, List.set_cons_zero, List.set_cons_succ])
          refine wpAnyH_done (by kernel_rfl) ?_ _
          refine NoPanic.normal ?_
          clear hS2 hown2 hb2 hcat hr1 hrA hHeld hjl HB
          have hc1 := (hbx.below hbel2).c1
          go_wp2_with fail
          refine (PutVar_any none 0 [] U _ (BytesIn.nil_ _ _) (by simp) hU).mono ?_
          rintro e w3 ⟨v3, rfl, hown3, hb3⟩
          rw [List.nil_append] at hown3
          have hown3' := own_base hown3 hbel2.size
          have hbel3 := hbel2.trans (hb3.mono hbel2.size)
          have hin3 := hbB.below hbel3
          have hvp := I.vb_pos U
          have hvl := I.vb_len10 hU
          have hg := I.vb_gv l hU
          obtain ⟨X, hX⟩ : ∃ X, X = I.vb U := ⟨_, rfl⟩
          rw [← hX] at hvp hvl hown3' hg
          have HG := Lib.hid hg
          clear hown3 hX hg hc1 hbel2 hb3
          go_wp2_with (at_builtin; refine push_bytes wB _ rfl (.tmp 119) (.tmp 120) rfl wB.heap.size v3 X rfl hown3' wB.heap.size A c _ l rfl rfl hin3 (Nat.le_refl _) hbel3 (by omega) (by omega) ?_; intro v4 w4 hown4 hb4 _)
          obtain ⟨A4, c4, rfl, hc4, hc4'⟩ := own_form hown4 (by rw [List.length_append]; omega)
          refine (GetVar_any A4 c4 (X ++ l) _ (BytesIn.of_own hown4) (by rw [List.length_append]; omega)).mono ?_
          rintro e w5 ⟨N5, A5, r5, c5, E5, rfl, hin5, hg5, hN5, hb5⟩
          obtain ⟨rfl, rfl, rfl⟩ := I.gv_unique HG.out hg5
          have hbel5 := hb4.trans (hb5.mono hb4.size)
          have hb5x := hbx.below hbel5
          have hS5 : ((convert 22 9 (.slice A5 l.length c5)).run Try.prog w5.drew = .ok (.string ⟨l.toArray⟩) w5.drew ∧ (convert 22 9 (.slice A l.length c)).run Try.prog w5.drew = .ok (.string ⟨l.toArray⟩) w5.drew) ∧ w5.drew.cell? ⟨w.heap.size, 0, none⟩ = some (.int .i64 n) ∧ w5.drew.cell? ⟨w.heap.size, 1, none⟩ = some (.int .u64 U) := ⟨⟨conv_in hin5.drew', conv_in (hbB.below hbel5).drew'⟩, hb5x.c0, hb5x.c1⟩
          have hd0 : w5.drew.cell? ⟨w.heap.size, 0, none⟩ = some (.int .i64 n) := hb5x.c0
          have hd1 : w5.drew.cell? ⟨w.heap.size, 1, none⟩ = some (.int .u64 U) := hb5x.c1
          have hd2 : w5.drew.cell? ⟨w.heap.size, 2, none⟩ = some (.int .i64 b) := hb5x.c2
          have hd3 : w5.drew.cell? ⟨w.heap.size, 3, none⟩ = some (.bool sg) := hb5x.c3
          have HB5 := Lib.hid hbel5.drew
          obtain ⟨Z, hz1, hz2, hz3⟩ := I.zig_nat hn1 hn2
          obtain ⟨⟨hy1, hy2⟩, hy3⟩ := I.zag_zig hU
          obtain ⟨Y, hY⟩ : ∃ Y, I.zagN U = Y := ⟨_, rfl⟩
          rw [hY] at hy1 hy2 hy3
          have HZ1 := Lib.hid hz1
          have HZ3 := Lib.hid hz3
          have HY := Lib.hid hY
          have HY3 := Lib.hid hy3
          clear hz1 hz3 hY hy3 hin3 hown3' hbel3 hown4 hb4 hb5 hin5 hg5 hbel5 hb5x HG
          go_wp2_with fail
          refine wp_region_noPanic ?_
          refine wp_region_held_drew (S := fun w' => ((convert 22 9 (.slice A5 l.length c5)).run Try.prog w' = .ok (.string ⟨l.toArray⟩) w' ∧ (convert 22 9 (.slice A l.length c)).run Try.prog w' = .ok (.string ⟨l.toArray⟩) w') ∧ w'.cell? ⟨w.heap.size, 0, none⟩ = some (.int .i64 n) ∧ w'.cell? ⟨w.heap.size, 1, none⟩ = some (.int .u64 U)) (by kernel_rfl) hS5 (fun hHeld => ?_)
          refine wpAnyH_take (i := 0) (oi := ({ dst := some 126, op := Op.move (Operand.tmp 15), type := 25, pos := "law.go:114", after := #[], guard := none } : Oper)) (v := ?_) rfl (by kernel_rfl) (by kernel_rfl) (by kernel_rfl) (fun _ _ _ h => h) (Or.inl ⟨by rfl, ?_⟩) (by assumption) ?_
          rotate_left 1
          · intro w hSw
            (try dsimp only at hSw)
            go_simp
            (try with_reducible rfl)
          (try simp only [Act.put, List.setIfInBounds_toArray, List.set_cons_zero, List.set_cons_succ])
          refine wpAnyH_take (i := 1) (oi := ({ dst := some 127, op := Op.binOp BinOp.neq 25 (Operand.tmp 126) (Operand.const (Value.int IntKind.i64 0)) 25, type := 4, pos := "law.go:114", after := #[{ on := 0, ground := Ground.data }], guard := none } : Oper)) (v := ?_) rfl (by kernel_rfl) (by kernel_rfl) (by kernel_rfl) (fun _ _ _ h => h) (Or.inl ⟨by rfl, ?_⟩) (by assumption) ?_
          rotate_left 1
          · intro w hSw
            (try dsimp only at hSw)
            go_simp
            (try with_reducible rfl)
          (try simp only [Act.put, List.setIfInBounds_toArray, List.set_cons_zero, List.set_cons_succ])
          refine wpAnyH_take (i := 2) (oi := ({ dst := some 128, op := Op.move (Operand.tmp 127), type := 4, pos := "law.go:114", after := #[{ on := 1, ground := Ground.data }], guard := none } : Oper)) (v := ?_) rfl (by kernel_rfl) (by kernel_rfl) (by kernel_rfl) (fun _ _ _ h => h) (Or.inl ⟨by rfl, ?_⟩) (by assumption) ?_
          rotate_left 1
          · intro w hSw
            (try dsimp only at hSw)
            go_simp
            (try with_reducible rfl)
          (try simp only [Act.put, List.setIfInBounds_toArray, List.set_cons_zero, List.set_cons_succ])
          refine wpAnyH_take (i := 3) (oi := ({ dst := some 129, op := Op.move (Operand.tmp 13), type := 23, pos := "law.go:114", after := #[{ on := 2, ground := Ground.guard }], guard := some (2, false) } : Oper)) (v := ?_) rfl (by kernel_rfl) (by kernel_rfl) (by kernel_rfl) (fun _ _ _ h => h) (Or.inl ⟨by rfl, ?_⟩) (by assumption) ?_
          rotate_left 1
          · intro w hSw
            (try dsimp only at hSw)
            go_simp
            (try with_reducible rfl)
          (try simp only [Act.put, List.setIfInBounds_toArray, List.set_cons_zero, List.set_cons_succ])
          refine wpAnyH_take (i := 4) (oi := ({ dst := some 130, op := Op.fieldAddr 37 (Operand.tmp 3) 1, type := 0, pos := "law.go:114", after := #[{ on := 2, ground := Ground.guard }], guard := some (2, false) } : Oper)) (v := ?_) rfl (by kernel_rfl) (by kernel_rfl) (by kernel_rfl) (fun _ _ _ h => h) (Or.inl ⟨by rfl, ?_⟩) (by assumption) ?_
          rotate_left 1
          · intro w hSw
            (try dsimp only at hSw)
            go_simp
            (try with_reducible rfl)
          (try simp only [Act.put, List.setIfInBounds_toArray, List.set_cons_zero, List.set_cons_succ])
          refine wpAnyH_take (i := 5) (oi := ({ dst := some 131, op := Op.load 23 (Operand.tmp 130), type := 23, pos := "law.go:114", after := #[{ on := 4, ground := Ground.data }, { on := 2, ground := Ground.guard }], guard := some (2, false) } : Oper)) (v := ?_) rfl (by kernel_rfl) (by kernel_rfl) (by kernel_rfl) (fun _ _ _ h => h) (Or.inl ⟨by rfl, ?_⟩) (by assumption) ?_
          rotate_left 1
          · intro w hSw
            (try dsimp only at hSw)
            go_simp
            (try with_reducible rfl)
          (try simp only [Act.put, List.setIfInBounds_toArray, List.set_cons_zero, List.set_cons_succ])
          refine wpAnyH_take (i := 6) (oi := ({ dst := some 132, op := Op.binOp BinOp.neq 23 (Operand.tmp 129) (Operand.tmp 131) 23, type := 4, pos := "law.go:114", after := #[{ on := 3, ground := Ground.data }, { on := 5, ground := Ground.data }, { on := 2, ground := Ground.guard }], guard := some (2, false) } : Oper)) (v := ?_) rfl (by kernel_rfl) (by kernel_rfl) (by kernel_rfl) (fun _ _ _ h => h) (Or.inl ⟨by rfl, ?_⟩) (by assumption) ?_
          rotate_left 1
          · intro w hSw
            (try dsimp only at hSw)
            go_simp
            (try with_reducible rfl)
          (try simp only [Act.put, List.setIfInBounds_toArray, List.set_cons_zero, List.set_cons_succ])
          refine wpAnyH_take (i := 7) (oi := ({ dst := some 133, op := Op.pick (Operand.tmp 128) (Operand.const (Value.bool true)) (Operand.tmp 132), type := 4, pos := "law.go:114", after := #[{ on := 2, ground := Ground.data }, { on := 6, ground := Ground.data }], guard := none } : Oper)) (v := ?_) rfl (by kernel_rfl) (by kernel_rfl) (by kernel_rfl) (fun _ _ _ h => h) (Or.inl ⟨by rfl, ?_⟩) (by assumption) ?_
          rotate_left 1
          · intro w hSw
            (try dsimp only at hSw)
            go_simp
            (try with_reducible rfl)
          (try simp only [Act.put, List.setIfInBounds_toArray, List.set_cons_zero, List.set_cons_succ])
          refine wpAnyH_take (i := 8) (oi := ({ dst := some 134, op := Op.move (Operand.tmp 133), type := 4, pos := "law.go:114", after := #[{ on := 7, ground := Ground.data }, { on := 2, ground := Ground.chain }], guard := none } : Oper)) (v := ?_) rfl (by kernel_rfl) (by kernel_rfl) (by kernel_rfl) (fun _ _ _ h => h) (Or.inl ⟨by rfl, ?_⟩) (by assumption) ?_
          rotate_left 1
          · intro w hSw
            (try dsimp only at hSw)
            go_simp
            (try with_reducible rfl)
          (try simp only [Act.put, List.setIfInBounds_toArray, List.set_cons_zero, List.set_cons_succ])
          refine wpAnyH_take (i := 9) (oi := ({ dst := some 135, op := Op.move (Operand.tmp 14), type := 22, pos := "law.go:114", after := #[{ on := 8, ground := Ground.guard }], guard := some (8, false) } : Oper)) (v := ?_) rfl (by kernel_rfl) (by kernel_rfl) (by kernel_rfl) (fun _ _ _ h => h) (Or.inl ⟨by rfl, ?_⟩) (by assumption) ?_
          rotate_left 1
          · intro w hSw
            (try dsimp only at hSw)
            go_simp
            (try with_reducible rfl)
          (try simp only [Act.put, List.setIfInBounds_toArray, List.set_cons_zero, List.set_cons_succ])
          refine wpAnyH_take (i := 10) (oi := ({ dst := some 136, op := Op.convert 22 9 (Operand.tmp 135), type := 9, pos := "law.go:114", after := #[{ on := 9, ground := Ground.data }, { on := 8, ground := Ground.guard }], guard := some (8, false) } : Oper)) (v := ?_) rfl (by kernel_rfl) (by kernel_rfl) (by kernel_rfl) (fun _ _ _ h => h) (Or.inl ⟨by rfl, ?_⟩) (by assumption) ?_
          rotate_left 1
          · intro w hSw
            (try dsimp only at hSw)
            go_simp
            (try with_reducible rfl)
          (try simp only [Act.put, List.setIfInBounds_toArray, List.set_cons_zero, List.set_cons_succ])
          refine wpAnyH_take (i := 11) (oi := ({ dst := some 137, op := Op.move (Operand.tmp 0), type := 22, pos := "law.go:114", after := #[{ on := 8, ground := Ground.guard }], guard := some (8, false) } : Oper)) (v := ?_) rfl (by kernel_rfl) (by kernel_rfl) (by kernel_rfl) (fun _ _ _ h => h) (Or.inl ⟨by rfl, ?_⟩) (by assumption) ?_
          rotate_left 1
          · intro w hSw
            (try dsimp only at hSw)
            go_simp
            (try with_reducible rfl)
          (try simp only [Act.put, List.setIfInBounds_toArray, List.set_cons_zero, List.set_cons_succ])
          refine wpAnyH_take (i := 12) (oi := ({ dst := some 138, op := Op.convert 22 9 (Operand.tmp 137), type := 9, pos := "law.go:114", after := #[{ on := 11, ground := Ground.data }, { on := 8, ground := Ground.guard }], guard := some (8, false) } : Oper)) (v := ?_) rfl (by kernel_rfl) (by kernel_rfl) (by kernel_rfl) (fun _ _ _ h => h) (Or.inl ⟨by rfl, ?_⟩) (by assumption) ?_
          rotate_left 1
          · intro w hSw
            (try dsimp only at hSw)
            go_simp
            (try with_reducible rfl)
          (try simp only [Act.put, List.setIfInBounds_toArray, List.set_cons_zero, List.set_cons_succ])
          refine wpAnyH_take (i := 13) (oi := ({ dst := some 139, op := Op.binOp BinOp.neq 9 (Operand.tmp 136) (Operand.tmp 138) 9, type := 4, pos := "law.go:114", after := #[{ on := 10, ground := Ground.data }, { on := 12, ground := Ground.data }, { on := 8, ground := Ground.guard }], guard := some (8, false) } : Oper)) (v := ?_) rfl (by kernel_rfl) (by kernel_rfl) (by kernel_rfl) (fun _ _ _ h => h) (Or.inl ⟨by rfl, ?_⟩) (by assumption) ?_
          rotate_left 1
          · intro w hSw
            (try dsimp only at hSw)
            go_simp
            (try with_reducible rfl)
          (try simp only [Act.put, List.setIfInBounds_toArray, List.set_cons_zero, List.set_cons_succ])
          refine wpAnyH_take (i := 14) (oi := ({ dst := some 140, op := Op.pick (Operand.tmp 134) (Operand.const (Value.bool true)) (Operand.tmp 139), type := 4, pos := "law.go:114", after := #[{ on := 8, ground := Ground.data }, { on := 13, ground := Ground.data }], guard := none } : Oper)) (v := ?_) rfl (by kernel_rfl) (by kernel_rfl) (by kernel_rfl) (fun _ _ _ h => h) (Or.inl ⟨by rfl, ?_⟩) (by assumption) ?_
          rotate_left 1
          · intro w hSw
            (try dsimp only at hSw)
            go_simp
            (try with_reducible rfl)
          (try simp only [Act.put, List.setIfInBounds_toArray, List.set_cons_zero, List.set_cons_succ])
          refine wpAnyH_take (i := 15) (oi := ({ dst := some 141, op := Op.move (Operand.tmp 140), type := 4, pos := "law.go:114", after := #[{ on := 14, ground := Ground.data }, { on := 8, ground := Ground.chain }], guard := none } : Oper)) (v := ?_) rfl (by kernel_rfl) (by kernel_rfl) (by kernel_rfl) (fun _ _ _ h => h) (Or.inl ⟨by rfl, ?_⟩) (by assumption) ?_
          rotate_left 1
          · intro w hSw
            (try dsimp only at hSw)
            go_simp
            (try with_reducible rfl)
          (try simp only [Act.put, List.setIfInBounds_toArray, List.set_cons_zero, List.set_cons_succ])
          refine wpAnyH_take (i := 16) (oi := ({ dst := some 142, op := Op.fieldAddr 37 (Operand.tmp 3) 0, type := 0, pos := "law.go:114", after := #[{ on := 15, ground := Ground.guard }], guard := some (15, false) } : Oper)) (v := ?_) rfl (by kernel_rfl) (by kernel_rfl) (by kernel_rfl) (fun _ _ _ h => h) (Or.inl ⟨by rfl, ?_⟩) (by assumption) ?_
          rotate_left 1
          · intro w hSw
            (try dsimp only at hSw)
            go_simp
            (try with_reducible rfl)
          (try simp only [Act.put, List.setIfInBounds_toArray, List.set_cons_zero, List.set_cons_succ])
          refine wpAnyH_take (i := 17) (oi := ({ dst := some 143, op := Op.load 2 (Operand.tmp 142), type := 2, pos := "law.go:114", after := #[{ on := 16, ground := Ground.data }, { on := 15, ground := Ground.guard }], guard := some (15, false) } : Oper)) (v := ?_) rfl (by kernel_rfl) (by kernel_rfl) (by kernel_rfl) (fun _ _ _ h => h) (Or.inl ⟨by rfl, ?_⟩) (by assumption) ?_
          rotate_left 1
          · intro w hSw
            (try dsimp only at hSw)
            go_simp
            (try with_reducible rfl)
          (try simp only [Act.put, List.setIfInBounds_toArray, List.set_cons_zero, List.set_cons_succ])
          refine wpAnyH_take (i := 20) (oi := ({ dst := some 146, op := Op.fieldAddr 37 (Operand.tmp 3) 0, type := 0, pos := "law.go:114", after := #[{ on := 15, ground := Ground.guard }], guard := some (15, false) } : Oper)) (v := ?_) rfl (by kernel_rfl) (by kernel_rfl) (by kernel_rfl) (fun _ _ _ h => h) (Or.inl ⟨by rfl, ?_⟩) (by assumption) ?_
          rotate_left 1
          · intro w hSw
            (try dsimp only at hSw)
            go_simp
            (try with_reducible rfl)
          (try simp only [Act.put, List.setIfInBounds_toArray, List.set_cons_zero, List.set_cons_succ])
          refine wpAnyH_take (i := 21) (oi := ({ dst := some 147, op := Op.load 2 (Operand.tmp 146), type := 2, pos := "law.go:114", after := #[{ on := 20, ground := Ground.data }, { on := 15, ground := Ground.guard }], guard := some (15, false) } : Oper)) (v := ?_) rfl (by kernel_rfl) (by kernel_rfl) (by kernel_rfl) (fun _ _ _ h => h) (Or.inl ⟨by rfl, ?_⟩) (by assumption) ?_
          rotate_left 1
          · intro w hSw
            (try dsimp only at hSw)
            go_simp
            (try with_reducible rfl)
          (try simp only [Act.put, List.setIfInBounds_toArray, List.set_cons_zero, List.set_cons_succ])
          refine wpAnyH_ready (rs := [18]) (by kernel_rfl) (by simp) ?_
          refine AllReadyH.cons (o := ({ dst := some 144, op := Op.call { callee := Callee.value (Operand.func 21), args := #[Operand.tmp 143], argTypes := #[2] }, type := 23, pos := "law.go:114", after := #[{ on := 17, ground := Ground.data }, { on := 15, ground := Ground.chain }, { on := 15, ground := Ground.guard }], guard := some (15, false) } : Oper)) rfl (fun K hK => ?_) AllReadyH.nil
          go_simp
          refine (Zig_is n Z hn1 hn2 HZ1.out _).mono ?_
          rintro e w' ⟨rfl, rfl⟩
          refine hK.out _ _ hS5 (fun _ => ?_)
          clear hK K
          (try simp only [Act.put, List.setIfInBounds_toArray, List.set_cons_zero, List.set_cons_succ])
          refine wpAnyH_ready (rs := [19]) (by kernel_rfl) (by simp) ?_
          refine AllReadyH.cons (o := ({ dst := some 145, op := Op.call { callee := Callee.value (Operand.func 23), args := #[Operand.tmp 144], argTypes := #[23] }, type := 2, pos := "law.go:114", after := #[{ on := 18, ground := Ground.data }, { on := 18, ground := Ground.chain }, { on := 15, ground := Ground.guard }], guard := some (15, false) } : Oper)) rfl (fun K hK => ?_) AllReadyH.nil
          go_simp
          refine (Zag_is Z n hz2 HZ3.out _).mono ?_
          rintro e w' ⟨rfl, rfl⟩
          refine hK.out _ _ hS5 (fun _ => ?_)
          clear hK K
          (try simp only [Act.put, List.setIfInBounds_toArray, List.set_cons_zero, List.set_cons_succ])
          refine wpAnyH_take (i := 22) (oi := ({ dst := some 148, op := Op.binOp BinOp.neq 2 (Operand.tmp 145) (Operand.tmp 147) 2, type := 4, pos := "law.go:114", after := #[{ on := 19, ground := Ground.data }, { on := 21, ground := Ground.data }, { on := 15, ground := Ground.guard }], guard := some (15, false) } : Oper)) (v := ?_) rfl (by kernel_rfl) (by kernel_rfl) (by kernel_rfl) (fun _ _ _ h => h) (Or.inl ⟨by rfl, ?_⟩) (by assumption) ?_
          rotate_left 1
          · intro w hSw
            (try dsimp only at hSw)
            go_simp
            (try with_reducible rfl)
          (try simp only [Act.put, List.setIfInBounds_toArray, List.set_cons_zero, List.set_cons_succ])
          refine wpAnyH_take (i := 23) (oi := ({ dst := some 149, op := Op.pick (Operand.tmp 141) (Operand.const (Value.bool true)) (Operand.tmp 148), type := 4, pos := "law.go:114", after := #[{ on := 15, ground := Ground.data }, { on := 22, ground := Ground.data }], guard := none } : Oper)) (v := ?_) rfl (by kernel_rfl) (by kernel_rfl) (by kernel_rfl) (fun _ _ _ h => h) (Or.inl ⟨by rfl, ?_⟩) (by assumption) ?_
          rotate_left 1
          · intro w hSw
            (try dsimp only at hSw)
            go_simp
            (try with_reducible rfl)
          (try simp only [Act.put, List.setIfInBounds_toArray, List.set_cons_zero, List.set_cons_succ])
          refine wpAnyH_take (i := 24) (oi := ({ dst := some 150, op := Op.move (Operand.tmp 149), type := 4, pos := "law.go:114", after := #[{ on := 23, ground := Ground.data }, { on := 19, ground := Ground.chain }], guard := none } : Oper)) (v := ?_) rfl (by kernel_rfl) (by kernel_rfl) (by kernel_rfl) (fun _ _ _ h => h) (Or.inl ⟨by rfl, ?_⟩) (by assumption) ?_
          rotate_left 1
          · intro w hSw
            (try dsimp only at hSw)
            go_simp
            (try with_reducible rfl)
          (try simp only [Act.put, List.setIfInBounds_toArray, List.set_cons_zero, List.set_cons_succ])
          refine wpAnyH_take (i := 25) (oi := ({ dst := some 151, op := Op.fieldAddr 37 (Operand.tmp 3) 1, type := 0, pos := "law.go:114", after := #[{ on := 24, ground := Ground.guard }], guard := some (24, false) } : Oper)) (v := ?_) rfl (by kernel_rfl) (by kernel_rfl) (by kernel_rfl) (fun _ _ _ h => h) (Or.inl ⟨by rfl, ?_⟩) (by assumption) ?_
          rotate_left 1
          · intro w hSw
            (try dsimp only at hSw)
            go_simp
            (try with_reducible rfl)
          (try simp only [Act.put, List.setIfInBounds_toArray, List.set_cons_zero, List.set_cons_succ])
          refine wpAnyH_take (i := 26) (oi := ({ dst := some 152, op := Op.load 23 (Operand.tmp 151), type := 23, pos := "law.go:114", after := #[{ on := 25, ground := Ground.data }, { on := 24, ground := Ground.guard }], guard := some (24, false) } : Oper)) (v := ?_) rfl (by kernel_rfl) (by kernel_rfl) (by kernel_rfl) (fun _ _ _ h => h) (Or.inl ⟨by rfl, ?_⟩) (by assumption) ?_
          rotate_left 1
          · intro w hSw
            (try dsimp only at hSw)
            go_simp
            (try with_reducible rfl)
          (try simp only [Act.put, List.setIfInBounds_toArray, List.set_cons_zero, List.set_cons_succ])
          refine wpAnyH_take (i := 29) (oi := ({ dst := some 155, op := Op.fieldAddr 37 (Operand.tmp 3) 1, type := 0, pos := "law.go:114", after := #[{ on := 24, ground := Ground.guard }], guard := some (24, false) } : Oper)) (v := ?_) rfl (by kernel_rfl) (by kernel_rfl) (by kernel_rfl) (fun _ _ _ h => h) (Or.inl ⟨by rfl, ?_⟩) (by assumption) ?_
          rotate_left 1
          · intro w hSw
            (try dsimp only at hSw)
            go_simp
            (try with_reducible rfl)
          (try simp only [Act.put, List.setIfInBounds_toArray, List.set_cons_zero, List.set_cons_succ])
          refine wpAnyH_take (i := 30) (oi := ({ dst := some 156, op := Op.load 23 (Operand.tmp 155), type := 23, pos := "law.go:114", after := #[{ on := 29, ground := Ground.data }, { on := 24, ground := Ground.guard }], guard := some (24, false) } : Oper)) (v := ?_) rfl (by kernel_rfl) (by kernel_rfl) (by kernel_rfl) (fun _ _ _ h => h) (Or.inl ⟨by rfl, ?_⟩) (by assumption) ?_
          rotate_left 1
          · intro w hSw
            (try dsimp only at hSw)
            go_simp
            (try with_reducible rfl)
          (try simp only [Act.put, List.setIfInBounds_toArray, List.set_cons_zero, List.set_cons_succ])
          refine wpAnyH_ready (rs := [27]) (by kernel_rfl) (by simp) ?_
          refine AllReadyH.cons (o := ({ dst := some 153, op := Op.call { callee := Callee.value (Operand.func 23), args := #[Operand.tmp 152], argTypes := #[23] }, type := 2, pos := "law.go:114", after := #[{ on := 26, ground := Ground.data }, { on := 24, ground := Ground.chain }, { on := 24, ground := Ground.guard }], guard := some (24, false) } : Oper)) rfl (fun K hK => ?_) AllReadyH.nil
          go_simp
          refine (Zag_is U Y hU HY.out _).mono ?_
          rintro e w' ⟨rfl, rfl⟩
          refine hK.out _ _ hS5 (fun _ => ?_)
          clear hK K
          (try simp only [Act.put, List.setIfInBounds_toArray, List.set_cons_zero, List.set_cons_succ])
          refine wpAnyH_ready (rs := [28]) (by kernel_rfl) (by simp) ?_
          refine AllReadyH.cons (o := ({ dst := some 154, op := Op.call { callee := Callee.value (Operand.func 21), args := #[Operand.tmp 153], argTypes := #[2] }, type := 23, pos := "law.go:114", after := #[{ on := 27, ground := Ground.data }, { on := 27, ground := Ground.chain }, { on := 24, ground := Ground.guard }], guard := some (24, false) } : Oper)) rfl (fun K hK => ?_) AllReadyH.nil
          go_simp
          refine (Zig_is Y U hy1 hy2 HY3.out _).mono ?_
          rintro e w' ⟨rfl, rfl⟩
          refine hK.out _ _ hS5 (fun _ => ?_)
          clear hK K
          (try simp only [Act.put, List.setIfInBounds_toArray, List.set_cons_zero, List.set_cons_succ])
          refine wpAnyH_take (i := 31) (oi := ({ dst := some 157, op := Op.binOp BinOp.neq 23 (Operand.tmp 154) (Operand.tmp 156) 23, type := 4, pos := "law.go:114", after := #[{ on := 28, ground := Ground.data }, { on := 30, ground := Ground.data }, { on := 24, ground := Ground.guard }], guard := some (24, false) } : Oper)) (v := ?_) rfl (by kernel_rfl) (by kernel_rfl) (by kernel_rfl) (fun _ _ _ h => h) (Or.inl ⟨by rfl, ?_⟩) (by assumption) ?_
          rotate_left 1
          · intro w hSw
            (try dsimp only at hSw)
            go_simp
            (try with_reducible rfl)
          (try simp only [Act.put, List.setIfInBounds_toArray, List.set_cons_zero, List.set_cons_succ])
          refine wpAnyH_take (i := 32) (oi := ({ dst := some 158, op := Op.pick (Operand.tmp 150) (Operand.const (Value.bool true)) (Operand.tmp 157), type := 4, pos := "law.go:114", after := #[{ on := 24, ground := Ground.data }, { on := 31, ground := Ground.data }], guard := none } : Oper)) (v := ?_) rfl (by kernel_rfl) (by kernel_rfl) (by kernel_rfl) (fun _ _ _ h => h) (Or.inl ⟨by rfl, ?_⟩) (by assumption) ?_
          rotate_left 1
          · intro w hSw
            (try dsimp only at hSw)
            go_simp
            (try with_reducible rfl)
          (try simp only [Act.put, List.setIfInBounds_toArray, List.set_cons_zero, List.set_cons_succ])
          refine wpAnyH_done (by kernel_rfl) ?_ _
          refine NoPanic.normal ?_
          clear hS5 hHeld
          have hf : I.fitOk n b sg = true ∨ I.fitOk n b sg = false := by cases I.fitOk n b sg <;> simp
          have hw : I.widOk U b sg = true ∨ I.widOk U b sg = false := by cases I.widOk U b sg <;> simp
          go_wp2_with fail
          refine (Fit_any n b sg hn1 hn2 _).mono ?_
          rintro e w6 ⟨rfl, rfl⟩
          rcases hf with hf | hf
          · obtain ⟨M, hM1, hM2, hM3, hM4⟩ := I.fit_wid hn2 hf
            rw [hf, hM1, show I.errV true = 0 from rfl]
            have HM3 := Lib.hid hM3
            have HM4 := Lib.hid hM4
            clear hM1 hM3 hM4 hf
            go_wp2_with fail
            refine (Widen_any M b sg hM2 _).mono ?_
            rintro e w6 ⟨rfl, rfl⟩
            rw [HM3.out, HM4.out, show I.errV true = 0 from rfl]
            go_wp2_with fail
            refine (Widen_any U b sg hU _).mono ?_
            rintro e w6 ⟨rfl, rfl⟩
            rcases hw with hw | hw
            · obtain ⟨⟨a1, a2⟩, a3, a4⟩ := I.wid_fit hw
              obtain ⟨V, hV⟩ : ∃ V, I.widV U b sg = V := ⟨_, rfl⟩
              rw [hw, hV, show I.errV true = 0 from rfl]
              rw [hV] at a1 a2 a3 a4
              have HV := Lib.hid a3
              have HV4 := Lib.hid a4
              clear hV a3 a4 hw
              go_wp2_with fail
              refine (Fit_any V b sg a1 a2 _).mono ?_
              rintro e w6 ⟨rfl, rfl⟩
              rw [HV.out, HV4.out, show I.errV true = 0 from rfl]
              go_wp2_with fail
              refine (awake_any _).mono ?_
              rintro e w6 ⟨rfl, hb6⟩
              go_wp2_with fail
              go_ret
              exact ⟨rfl, HBA.out.trans ((HB5.out.trans (hb6.mono HB5.out.size)).mono HBA.out.size)⟩
            · rw [hw, show I.errV false = 7 from rfl]
              go_wp2_with fail
              refine (awake_any _).mono ?_
              rintro e w6 ⟨rfl, hb6⟩
              go_wp2_with fail
              go_ret
              exact ⟨rfl, HBA.out.trans ((HB5.out.trans (hb6.mono HB5.out.size)).mono HBA.out.size)⟩
          · rw [hf, show I.errV false = 7 from rfl]
            go_wp2_with fail
            refine (Widen_any U b sg hU _).mono ?_
            rintro e w6 ⟨rfl, rfl⟩
            rcases hw with hw | hw
            · obtain ⟨⟨a1, a2⟩, a3, a4⟩ := I.wid_fit hw
              obtain ⟨V, hV⟩ : ∃ V, I.widV U b sg = V := ⟨_, rfl⟩
              rw [hw, hV, show I.errV true = 0 from rfl]
              rw [hV] at a1 a2 a3 a4
              have HV := Lib.hid a3
              have HV4 := Lib.hid a4
              clear hV a3 a4 hw
              go_wp2_with fail
              refine (Fit_any V b sg a1 a2 _).mono ?_
              rintro e w6 ⟨rfl, rfl⟩
              rw [HV.out, HV4.out, show I.errV true = 0 from rfl]
              go_wp2_with fail
              refine (awake_any _).mono ?_
              rintro e w6 ⟨rfl, hb6⟩
              go_wp2_with fail
              go_ret
              exact ⟨rfl, HBA.out.trans ((HB5.out.trans (hb6.mono HB5.out.size)).mono HBA.out.size)⟩
            · rw [hw, show I.errV false = 7 from rfl]
              go_wp2_with fail
              refine (awake_any _).mono ?_
              rintro e w6 ⟨rfl, hb6⟩
              go_wp2_with fail
              go_ret
              exact ⟨rfl, HBA.out.trans ((HB5.out.trans (hb6.mono HB5.out.size)).mono HBA.out.size)⟩
        · have hE' : (E1 == 0) = false := beq_eq_false_iff_ne.2 hE
          clear hg1 hin1 hinr hr1 hrA
          have hbel2 := hbel1.drew
          clear hbel1 hb1 hbel
          go_wp2_with fail
          refine wp_region_noPanic ?_
          refine wp_region_held_drew (S := fun _ => True) (by kernel_rfl) trivial (fun hHeld => ?_)
          refine wpAnyH_take (i := 0) (oi := ({ dst := some 103, op := Op.move (Operand.tmp 15), type := 25, pos := "law.go:110", after := #[], guard := none } : Oper)) (v := ?_) rfl (by kernel_rfl) (by kernel_rfl) (by kernel_rfl) (fun _ _ _ h => h) (Or.inl ⟨by rfl, ?_⟩) (by assumption) ?_
          rotate_left 1
          · intro w hSw
            (try dsimp only at hSw)
            go_simp
            (try with_reducible rfl)
          (try simp only [Act.put, List.setIfInBounds_toArray, List.set_cons_zero, List.set_cons_succ])
          refine wpAnyH_take (i := 1) (oi := ({ dst := some 104, op := Op.binOp BinOp.eql 25 (Operand.tmp 103) (Operand.const (Value.int IntKind.i64 0)) 25, type := 4, pos := "law.go:110", after := #[{ on := 0, ground := Ground.data }], guard := none } : Oper)) (v := ?_) rfl (by kernel_rfl) (by kernel_rfl) (by kernel_rfl) (fun _ _ _ h => h) (Or.inl ⟨by rfl, ?_⟩) (by assumption) ?_
          rotate_left 1
          · intro w hSw
            (try dsimp only at hSw)
            go_simp
            (try with_reducible rfl)
          (try simp only [Act.put, List.setIfInBounds_toArray, List.set_cons_zero, List.set_cons_succ])
          refine wpAnyH_take (i := 2) (oi := ({ dst := some 105, op := Op.move (Operand.tmp 104), type := 4, pos := "law.go:110", after := #[{ on := 1, ground := Ground.data }], guard := none } : Oper)) (v := ?_) rfl (by kernel_rfl) (by kernel_rfl) (by kernel_rfl) (fun _ _ _ h => h) (Or.inl ⟨by rfl, ?_⟩) (by assumption) ?_
          rotate_left 1
          · intro w hSw
            (try dsimp only at hSw)
            go_simp
            (try with_reducible rfl)
          (try simp only [Act.put, List.setIfInBounds_toArray, List.set_cons_zero, List.set_cons_succ])
          refine wpAnyH_take (i := 3) (oi := ({ dst := some 106, op := Op.move (Operand.tmp 13), type := 23, pos := "law.go:110", after := #[{ on := 2, ground := Ground.guard }], guard := some (2, true) } : Oper)) (v := undef) rfl (by kernel_rfl) (by kernel_rfl) (by kernel_rfl) (fun _ _ _ h => h) (Or.inr ⟨by rfl, rfl⟩) (by assumption) ?_
          (try simp only [Act.put, List.setIfInBounds_toArray, List.set_cons_zero, List.set_cons_succ])
          refine wpAnyH_take (i := 4) (oi := ({ dst := some 107, op := Op.call { callee := Callee.value (Operand.func 19), args := #[Operand.const (Value.slice none 0 0), Operand.tmp 106], argTypes := #[22, 23] }, type := 22, pos := "law.go:110", after := #[{ on := 3, ground := Ground.data }, { on := 2, ground := Ground.chain }, { on := 2, ground := Ground.guard }], guard := some (2, true) } : Oper)) (v := undef) rfl (by kernel_rfl) (by kernel_rfl) (by kernel_rfl) (fun _ _ _ h => h) (Or.inr ⟨by rfl, rfl⟩) (by assumption) ?_
          (try simp only [Act.put, List.setIfInBounds_toArray, List.set_cons_zero, List.set_cons_succ])
          refine wpAnyH_take (i := 5) (oi := ({ dst := some 108, op := Op.convert 22 9 (Operand.tmp 107), type := 9, pos := "law.go:110", after := #[{ on := 4, ground := Ground.data }, { on := 2, ground := Ground.guard }], guard := some (2, true) } : Oper)) (v := undef) rfl (by kernel_rfl) (by kernel_rfl) (by kernel_rfl) (fun _ _ _ h => h) (Or.inr ⟨by rfl, rfl⟩) (by assumption) ?_
          (try simp only [Act.put, List.setIfInBounds_toArray, List.set_cons_zero, List.set_cons_succ])
          refine wpAnyH_take (i := 6) (oi := ({ dst := some 109, op := Op.move (Operand.tmp 14), type := 22, pos := "law.go:110", after := #[{ on := 2, ground := Ground.guard }], guard := some (2, true) } : Oper)) (v := undef) rfl (by kernel_rfl) (by kernel_rfl) (by kernel_rfl) (fun _ _ _ h => h) (Or.inr ⟨by rfl, rfl⟩) (by assumption) ?_
          (try simp only [Act.put, List.setIfInBounds_toArray, List.set_cons_zero, List.set_cons_succ])
          refine wpAnyH_take (i := 7) (oi := ({ dst := some 110, op := Op.convert 22 9 (Operand.tmp 109), type := 9, pos := "law.go:110", after := #[{ on := 6, ground := Ground.data }, { on := 2, ground := Ground.guard }], guard := some (2, true) } : Oper)) (v := undef) rfl (by kernel_rfl) (by kernel_rfl) (by kernel_rfl) (fun _ _ _ h => h) (Or.inr ⟨by rfl, rfl⟩) (by assumption) ?_
          (try simp only [Act.put, List.setIfInBounds_toArray, List.set_cons_zero, List.set_cons_succ])
          refine wpAnyH_take (i := 8) (oi := ({ dst := some 111, op := Op.binOp BinOp.add 9 (Operand.tmp 108) (Operand.tmp 110) 9, type := 9, pos := "law.go:110", after := #[{ on := 5, ground := Ground.data }, { on := 7, ground := Ground.data }, { on := 2, ground := Ground.guard }], guard := some (2, true) } : Oper)) (v := undef) rfl (by kernel_rfl) (by kernel_rfl) (by kernel_rfl) (fun _ _ _ h => h) (Or.inr ⟨by rfl, rfl⟩) (by assumption) ?_
          (try simp only [Act.put, List.setIfInBounds_toArray, List.set_cons_zero, List.set_cons_succ])
          refine wpAnyH_take (i := 9) (oi := ({ dst := some 112, op := Op.move (Operand.tmp 0), type := 22, pos := "law.go:110", after := #[{ on := 2, ground := Ground.guard }], guard := some (2, true) } : Oper)) (v := undef) rfl (by kernel_rfl) (by kernel_rfl) (by kernel_rfl) (fun _ _ _ h => h) (Or.inr ⟨by rfl, rfl⟩) (by assumption) ?_
          (try simp only [Act.put, List.setIfInBounds_toArray, List.set_cons_zero, List.set_cons_succ])
          refine wpAnyH_take (i := 10) (oi := ({ dst := some 113, op := Op.convert 22 9 (Operand.tmp 112), type := 9, pos := "law.go:110", after := #[{ on := 9, ground := Ground.data }, { on := 2, ground := Ground.guard }], guard := some (2, true) } : Oper)) (v := undef) rfl (by kernel_rfl) (by kernel_rfl) (by kernel_rfl) (fun _ _ _ h => h) (Or.inr ⟨by rfl, rfl⟩) (by assumption) ?_
          (try simp only [Act.put, List.setIfInBounds_toArray, List.set_cons_zero, List.set_cons_succ])
          refine wpAnyH_take (i := 11) (oi := ({ dst := some 114, op := Op.binOp BinOp.neq 9 (Operand.tmp 111) (Operand.tmp 113) 9, type := 4, pos := "law.go:110", after := #[{ on := 8, ground := Ground.data }, { on := 10, ground := Ground.data }, { on := 2, ground := Ground.guard }], guard := some (2, true) } : Oper)) (v := undef) rfl (by kernel_rfl) (by kernel_rfl) (by kernel_rfl) (fun _ _ _ h => h) (Or.inr ⟨by rfl, rfl⟩) (by assumption) ?_
          (try simp only [Act.put, List.setIfInBounds_toArray, List.set_cons_zero, List.set_cons_succ])
          refine wpAnyH_take (i := 12) (oi := ({ dst := some 115, op := Op.pick (Operand.tmp 105) (Operand.tmp 114) (Operand.const (Value.bool false)), type := 4, pos := "law.go:110", after := #[{ on := 2, ground := Ground.data }, { on := 11, ground := Ground.data }], guard := none } : Oper)) (v := ?_) rfl (by kernel_rfl) (by kernel_rfl) (by kernel_rfl) (fun _ _ _ h => h) (Or.inl ⟨by rfl, ?_⟩) (by assumption) ?_
          rotate_left 1
          · intro w hSw
            (try dsimp only at hSw)
            go_simp
            (try with_reducible rfl)
          (try simp only [Act.put, List.setIfInBounds_toArray, List.set_cons_zero, List.set_cons_succ])
          refine wpAnyH_done (by kernel_rfl) ?_ _
          refine NoPanic.normal ?_
          clear hHeld
          have hc1 := (hbx.below hbel2).c1
          go_wp2_with fail
          refine (PutVar_any none 0 [] U _ (BytesIn.nil_ _ _) (by simp) hU).mono ?_
          rintro e w3 ⟨v3, rfl, hown3, hb3⟩
          rw [List.nil_append] at hown3
          have hown3' := own_base hown3 hbel2.size
          have hbel3 := hbel2.trans (hb3.mono hbel2.size)
          have hin3 := hbB.below hbel3
          have hvp := I.vb_pos U
          have hvl := I.vb_len10 hU
          have hg := I.vb_gv l hU
          obtain ⟨X, hX⟩ : ∃ X, X = I.vb U := ⟨_, rfl⟩
          rw [← hX] at hvp hvl hown3' hg
          have HG := Lib.hid hg
          clear hown3 hX hg hc1 hbel2 hb3
          go_wp2_with (at_builtin; refine push_bytes wB _ rfl (.tmp 119) (.tmp 120) rfl wB.heap.size v3 X rfl hown3' wB.heap.size A c _ l rfl rfl hin3 (Nat.le_refl _) hbel3 (by omega) (by omega) ?_; intro v4 w4 hown4 hb4 _)
          obtain ⟨A4, c4, rfl, hc4, hc4'⟩ := own_form hown4 (by rw [List.length_append]; omega)
          refine (GetVar_any A4 c4 (X ++ l) _ (BytesIn.of_own hown4) (by rw [List.length_append]; omega)).mono ?_
          rintro e w5 ⟨N5, A5, r5, c5, E5, rfl, hin5, hg5, hN5, hb5⟩
          obtain ⟨rfl, rfl, rfl⟩ := I.gv_unique HG.out hg5
          have hbel5 := hb4.trans (hb5.mono hb4.size)
          have hb5x := hbx.below hbel5
          have hS5 : ((convert 22 9 (.slice A5 l.length c5)).run Try.prog w5.drew = .ok (.string ⟨l.toArray⟩) w5.drew ∧ (convert 22 9 (.slice A l.length c)).run Try.prog w5.drew = .ok (.string ⟨l.toArray⟩) w5.drew) ∧ w5.drew.cell? ⟨w.heap.size, 0, none⟩ = some (.int .i64 n) ∧ w5.drew.cell? ⟨w.heap.size, 1, none⟩ = some (.int .u64 U) := ⟨⟨conv_in hin5.drew', conv_in (hbB.below hbel5).drew'⟩, hb5x.c0, hb5x.c1⟩
          have hd0 : w5.drew.cell? ⟨w.heap.size, 0, none⟩ = some (.int .i64 n) := hb5x.c0
          have hd1 : w5.drew.cell? ⟨w.heap.size, 1, none⟩ = some (.int .u64 U) := hb5x.c1
          have hd2 : w5.drew.cell? ⟨w.heap.size, 2, none⟩ = some (.int .i64 b) := hb5x.c2
          have hd3 : w5.drew.cell? ⟨w.heap.size, 3, none⟩ = some (.bool sg) := hb5x.c3
          have HB5 := Lib.hid hbel5.drew
          obtain ⟨Z, hz1, hz2, hz3⟩ := I.zig_nat hn1 hn2
          obtain ⟨⟨hy1, hy2⟩, hy3⟩ := I.zag_zig hU
          obtain ⟨Y, hY⟩ : ∃ Y, I.zagN U = Y := ⟨_, rfl⟩
          rw [hY] at hy1 hy2 hy3
          have HZ1 := Lib.hid hz1
          have HZ3 := Lib.hid hz3
          have HY := Lib.hid hY
          have HY3 := Lib.hid hy3
          clear hz1 hz3 hY hy3 hin3 hown3' hbel3 hown4 hb4 hb5 hin5 hg5 hbel5 hb5x HG
          go_wp2_with fail
          refine wp_region_noPanic ?_
          refine wp_region_held_drew (S := fun w' => ((convert 22 9 (.slice A5 l.length c5)).run Try.prog w' = .ok (.string ⟨l.toArray⟩) w' ∧ (convert 22 9 (.slice A l.length c)).run Try.prog w' = .ok (.string ⟨l.toArray⟩) w') ∧ w'.cell? ⟨w.heap.size, 0, none⟩ = some (.int .i64 n) ∧ w'.cell? ⟨w.heap.size, 1, none⟩ = some (.int .u64 U)) (by kernel_rfl) hS5 (fun hHeld => ?_)
          refine wpAnyH_take (i := 0) (oi := ({ dst := some 126, op := Op.move (Operand.tmp 15), type := 25, pos := "law.go:114", after := #[], guard := none } : Oper)) (v := ?_) rfl (by kernel_rfl) (by kernel_rfl) (by kernel_rfl) (fun _ _ _ h => h) (Or.inl ⟨by rfl, ?_⟩) (by assumption) ?_
          rotate_left 1
          · intro w hSw
            (try dsimp only at hSw)
            go_simp
            (try with_reducible rfl)
          (try simp only [Act.put, List.setIfInBounds_toArray, List.set_cons_zero, List.set_cons_succ])
          refine wpAnyH_take (i := 1) (oi := ({ dst := some 127, op := Op.binOp BinOp.neq 25 (Operand.tmp 126) (Operand.const (Value.int IntKind.i64 0)) 25, type := 4, pos := "law.go:114", after := #[{ on := 0, ground := Ground.data }], guard := none } : Oper)) (v := ?_) rfl (by kernel_rfl) (by kernel_rfl) (by kernel_rfl) (fun _ _ _ h => h) (Or.inl ⟨by rfl, ?_⟩) (by assumption) ?_
          rotate_left 1
          · intro w hSw
            (try dsimp only at hSw)
            go_simp
            (try with_reducible rfl)
          (try simp only [Act.put, List.setIfInBounds_toArray, List.set_cons_zero, List.set_cons_succ])
          refine wpAnyH_take (i := 2) (oi := ({ dst := some 128, op := Op.move (Operand.tmp 127), type := 4, pos := "law.go:114", after := #[{ on := 1, ground := Ground.data }], guard := none } : Oper)) (v := ?_) rfl (by kernel_rfl) (by kernel_rfl) (by kernel_rfl) (fun _ _ _ h => h) (Or.inl ⟨by rfl, ?_⟩) (by assumption) ?_
          rotate_left 1
          · intro w hSw
            (try dsimp only at hSw)
            go_simp
            (try with_reducible rfl)
          (try simp only [Act.put, List.setIfInBounds_toArray, List.set_cons_zero, List.set_cons_succ])
          refine wpAnyH_take (i := 3) (oi := ({ dst := some 129, op := Op.move (Operand.tmp 13), type := 23, pos := "law.go:114", after := #[{ on := 2, ground := Ground.guard }], guard := some (2, false) } : Oper)) (v := ?_) rfl (by kernel_rfl) (by kernel_rfl) (by kernel_rfl) (fun _ _ _ h => h) (Or.inl ⟨by rfl, ?_⟩) (by assumption) ?_
          rotate_left 1
          · intro w hSw
            (try dsimp only at hSw)
            go_simp
            (try with_reducible rfl)
          (try simp only [Act.put, List.setIfInBounds_toArray, List.set_cons_zero, List.set_cons_succ])
          refine wpAnyH_take (i := 4) (oi := ({ dst := some 130, op := Op.fieldAddr 37 (Operand.tmp 3) 1, type := 0, pos := "law.go:114", after := #[{ on := 2, ground := Ground.guard }], guard := some (2, false) } : Oper)) (v := ?_) rfl (by kernel_rfl) (by kernel_rfl) (by kernel_rfl) (fun _ _ _ h => h) (Or.inl ⟨by rfl, ?_⟩) (by assumption) ?_
          rotate_left 1
          · intro w hSw
            (try dsimp only at hSw)
            go_simp
            (try with_reducible rfl)
          (try simp only [Act.put, List.setIfInBounds_toArray, List.set_cons_zero, List.set_cons_succ])
          refine wpAnyH_take (i := 5) (oi := ({ dst := some 131, op := Op.load 23 (Operand.tmp 130), type := 23, pos := "law.go:114", after := #[{ on := 4, ground := Ground.data }, { on := 2, ground := Ground.guard }], guard := some (2, false) } : Oper)) (v := ?_) rfl (by kernel_rfl) (by kernel_rfl) (by kernel_rfl) (fun _ _ _ h => h) (Or.inl ⟨by rfl, ?_⟩) (by assumption) ?_
          rotate_left 1
          · intro w hSw
            (try dsimp only at hSw)
            go_simp
            (try with_reducible rfl)
          (try simp only [Act.put, List.setIfInBounds_toArray, List.set_cons_zero, List.set_cons_succ])
          refine wpAnyH_take (i := 6) (oi := ({ dst := some 132, op := Op.binOp BinOp.neq 23 (Operand.tmp 129) (Operand.tmp 131) 23, type := 4, pos := "law.go:114", after := #[{ on := 3, ground := Ground.data }, { on := 5, ground := Ground.data }, { on := 2, ground := Ground.guard }], guard := some (2, false) } : Oper)) (v := ?_) rfl (by kernel_rfl) (by kernel_rfl) (by kernel_rfl) (fun _ _ _ h => h) (Or.inl ⟨by rfl, ?_⟩) (by assumption) ?_
          rotate_left 1
          · intro w hSw
            (try dsimp only at hSw)
            go_simp
            (try with_reducible rfl)
          (try simp only [Act.put, List.setIfInBounds_toArray, List.set_cons_zero, List.set_cons_succ])
          refine wpAnyH_take (i := 7) (oi := ({ dst := some 133, op := Op.pick (Operand.tmp 128) (Operand.const (Value.bool true)) (Operand.tmp 132), type := 4, pos := "law.go:114", after := #[{ on := 2, ground := Ground.data }, { on := 6, ground := Ground.data }], guard := none } : Oper)) (v := ?_) rfl (by kernel_rfl) (by kernel_rfl) (by kernel_rfl) (fun _ _ _ h => h) (Or.inl ⟨by rfl, ?_⟩) (by assumption) ?_
          rotate_left 1
          · intro w hSw
            (try dsimp only at hSw)
            go_simp
            (try with_reducible rfl)
          (try simp only [Act.put, List.setIfInBounds_toArray, List.set_cons_zero, List.set_cons_succ])
          refine wpAnyH_take (i := 8) (oi := ({ dst := some 134, op := Op.move (Operand.tmp 133), type := 4, pos := "law.go:114", after := #[{ on := 7, ground := Ground.data }, { on := 2, ground := Ground.chain }], guard := none } : Oper)) (v := ?_) rfl (by kernel_rfl) (by kernel_rfl) (by kernel_rfl) (fun _ _ _ h => h) (Or.inl ⟨by rfl, ?_⟩) (by assumption) ?_
          rotate_left 1
          · intro w hSw
            (try dsimp only at hSw)
            go_simp
            (try with_reducible rfl)
          (try simp only [Act.put, List.setIfInBounds_toArray, List.set_cons_zero, List.set_cons_succ])
          refine wpAnyH_take (i := 9) (oi := ({ dst := some 135, op := Op.move (Operand.tmp 14), type := 22, pos := "law.go:114", after := #[{ on := 8, ground := Ground.guard }], guard := some (8, false) } : Oper)) (v := ?_) rfl (by kernel_rfl) (by kernel_rfl) (by kernel_rfl) (fun _ _ _ h => h) (Or.inl ⟨by rfl, ?_⟩) (by assumption) ?_
          rotate_left 1
          · intro w hSw
            (try dsimp only at hSw)
            go_simp
            (try with_reducible rfl)
          (try simp only [Act.put, List.setIfInBounds_toArray, List.set_cons_zero, List.set_cons_succ])
          refine wpAnyH_take (i := 10) (oi := ({ dst := some 136, op := Op.convert 22 9 (Operand.tmp 135), type := 9, pos := "law.go:114", after := #[{ on := 9, ground := Ground.data }, { on := 8, ground := Ground.guard }], guard := some (8, false) } : Oper)) (v := ?_) rfl (by kernel_rfl) (by kernel_rfl) (by kernel_rfl) (fun _ _ _ h => h) (Or.inl ⟨by rfl, ?_⟩) (by assumption) ?_
          rotate_left 1
          · intro w hSw
            (try dsimp only at hSw)
            go_simp
            (try with_reducible rfl)
          (try simp only [Act.put, List.setIfInBounds_toArray, List.set_cons_zero, List.set_cons_succ])
          refine wpAnyH_take (i := 11) (oi := ({ dst := some 137, op := Op.move (Operand.tmp 0), type := 22, pos := "law.go:114", after := #[{ on := 8, ground := Ground.guard }], guard := some (8, false) } : Oper)) (v := ?_) rfl (by kernel_rfl) (by kernel_rfl) (by kernel_rfl) (fun _ _ _ h => h) (Or.inl ⟨by rfl, ?_⟩) (by assumption) ?_
          rotate_left 1
          · intro w hSw
            (try dsimp only at hSw)
            go_simp
            (try with_reducible rfl)
          (try simp only [Act.put, List.setIfInBounds_toArray, List.set_cons_zero, List.set_cons_succ])
          refine wpAnyH_take (i := 12) (oi := ({ dst := some 138, op := Op.convert 22 9 (Operand.tmp 137), type := 9, pos := "law.go:114", after := #[{ on := 11, ground := Ground.data }, { on := 8, ground := Ground.guard }], guard := some (8, false) } : Oper)) (v := ?_) rfl (by kernel_rfl) (by kernel_rfl) (by kernel_rfl) (fun _ _ _ h => h) (Or.inl ⟨by rfl, ?_⟩) (by assumption) ?_
          rotate_left 1
          · intro w hSw
            (try dsimp only at hSw)
            go_simp
            (try with_reducible rfl)
          (try simp only [Act.put, List.setIfInBounds_toArray, List.set_cons_zero, List.set_cons_succ])
          refine wpAnyH_take (i := 13) (oi := ({ dst := some 139, op := Op.binOp BinOp.neq 9 (Operand.tmp 136) (Operand.tmp 138) 9, type := 4, pos := "law.go:114", after := #[{ on := 10, ground := Ground.data }, { on := 12, ground := Ground.data }, { on := 8, ground := Ground.guard }], guard := some (8, false) } : Oper)) (v := ?_) rfl (by kernel_rfl) (by kernel_rfl) (by kernel_rfl) (fun _ _ _ h => h) (Or.inl ⟨by rfl, ?_⟩) (by assumption) ?_
          rotate_left 1
          · intro w hSw
            (try dsimp only at hSw)
            go_simp
            (try with_reducible rfl)
          (try simp only [Act.put, List.setIfInBounds_toArray, List.set_cons_zero, List.set_cons_succ])
          refine wpAnyH_take (i := 14) (oi := ({ dst := some 140, op := Op.pick (Operand.tmp 134) (Operand.const (Value.bool true)) (Operand.tmp 139), type := 4, pos := "law.go:114", after := #[{ on := 8, ground := Ground.data }, { on := 13, ground := Ground.data }], guard := none } : Oper)) (v := ?_) rfl (by kernel_rfl) (by kernel_rfl) (by kernel_rfl) (fun _ _ _ h => h) (Or.inl ⟨by rfl, ?_⟩) (by assumption) ?_
          rotate_left 1
          · intro w hSw
            (try dsimp only at hSw)
            go_simp
            (try with_reducible rfl)
          (try simp only [Act.put, List.setIfInBounds_toArray, List.set_cons_zero, List.set_cons_succ])
          refine wpAnyH_take (i := 15) (oi := ({ dst := some 141, op := Op.move (Operand.tmp 140), type := 4, pos := "law.go:114", after := #[{ on := 14, ground := Ground.data }, { on := 8, ground := Ground.chain }], guard := none } : Oper)) (v := ?_) rfl (by kernel_rfl) (by kernel_rfl) (by kernel_rfl) (fun _ _ _ h => h) (Or.inl ⟨by rfl, ?_⟩) (by assumption) ?_
          rotate_left 1
          · intro w hSw
            (try dsimp only at hSw)
            go_simp
            (try with_reducible rfl)
          (try simp only [Act.put, List.setIfInBounds_toArray, List.set_cons_zero, List.set_cons_succ])
          refine wpAnyH_take (i := 16) (oi := ({ dst := some 142, op := Op.fieldAddr 37 (Operand.tmp 3) 0, type := 0, pos := "law.go:114", after := #[{ on := 15, ground := Ground.guard }], guard := some (15, false) } : Oper)) (v := ?_) rfl (by kernel_rfl) (by kernel_rfl) (by kernel_rfl) (fun _ _ _ h => h) (Or.inl ⟨by rfl, ?_⟩) (by assumption) ?_
          rotate_left 1
          · intro w hSw
            (try dsimp only at hSw)
            go_simp
            (try with_reducible rfl)
          (try simp only [Act.put, List.setIfInBounds_toArray, List.set_cons_zero, List.set_cons_succ])
          refine wpAnyH_take (i := 17) (oi := ({ dst := some 143, op := Op.load 2 (Operand.tmp 142), type := 2, pos := "law.go:114", after := #[{ on := 16, ground := Ground.data }, { on := 15, ground := Ground.guard }], guard := some (15, false) } : Oper)) (v := ?_) rfl (by kernel_rfl) (by kernel_rfl) (by kernel_rfl) (fun _ _ _ h => h) (Or.inl ⟨by rfl, ?_⟩) (by assumption) ?_
          rotate_left 1
          · intro w hSw
            (try dsimp only at hSw)
            go_simp
            (try with_reducible rfl)
          (try simp only [Act.put, List.setIfInBounds_toArray, List.set_cons_zero, List.set_cons_succ])
          refine wpAnyH_take (i := 20) (oi := ({ dst := some 146, op := Op.fieldAddr 37 (Operand.tmp 3) 0, type := 0, pos := "law.go:114", after := #[{ on := 15, ground := Ground.guard }], guard := some (15, false) } : Oper)) (v := ?_) rfl (by kernel_rfl) (by kernel_rfl) (by kernel_rfl) (fun _ _ _ h => h) (Or.inl ⟨by rfl, ?_⟩) (by assumption) ?_
          rotate_left 1
          · intro w hSw
            (try dsimp only at hSw)
            go_simp
            (try with_reducible rfl)
          (try simp only [Act.put, List.setIfInBounds_toArray, List.set_cons_zero, List.set_cons_succ])
          refine wpAnyH_take (i := 21) (oi := ({ dst := some 147, op := Op.load 2 (Operand.tmp 146), type := 2, pos := "law.go:114", after := #[{ on := 20, ground := Ground.data }, { on := 15, ground := Ground.guard }], guard := some (15, false) } : Oper)) (v := ?_) rfl (by kernel_rfl) (by kernel_rfl) (by kernel_rfl) (fun _ _ _ h => h) (Or.inl ⟨by rfl, ?_⟩) (by assumption) ?_
          rotate_left 1
          · intro w hSw
            (try dsimp only at hSw)
            go_simp
            (try with_reducible rfl)
          (try simp only [Act.put, List.setIfInBounds_toArray, List.set_cons_zero, List.set_cons_succ])
          refine wpAnyH_ready (rs := [18]) (by kernel_rfl) (by simp) ?_
          refine AllReadyH.cons (o := ({ dst := some 144, op := Op.call { callee := Callee.value (Operand.func 21), args := #[Operand.tmp 143], argTypes := #[2] }, type := 23, pos := "law.go:114", after := #[{ on := 17, ground := Ground.data }, { on := 15, ground := Ground.chain }, { on := 15, ground := Ground.guard }], guard := some (15, false) } : Oper)) rfl (fun K hK => ?_) AllReadyH.nil
          go_simp
          refine (Zig_is n Z hn1 hn2 HZ1.out _).mono ?_
          rintro e w' ⟨rfl, rfl⟩
          refine hK.out _ _ hS5 (fun _ => ?_)
          clear hK K
          (try simp only [Act.put, List.setIfInBounds_toArray, List.set_cons_zero, List.set_cons_succ])
          refine wpAnyH_ready (rs := [19]) (by kernel_rfl) (by simp) ?_
          refine AllReadyH.cons (o := ({ dst := some 145, op := Op.call { callee := Callee.value (Operand.func 23), args := #[Operand.tmp 144], argTypes := #[23] }, type := 2, pos := "law.go:114", after := #[{ on := 18, ground := Ground.data }, { on := 18, ground := Ground.chain }, { on := 15, ground := Ground.guard }], guard := some (15, false) } : Oper)) rfl (fun K hK => ?_) AllReadyH.nil
          go_simp
          refine (Zag_is Z n hz2 HZ3.out _).mono ?_
          rintro e w' ⟨rfl, rfl⟩
          refine hK.out _ _ hS5 (fun _ => ?_)
          clear hK K
          (try simp only [Act.put, List.setIfInBounds_toArray, List.set_cons_zero, List.set_cons_succ])
          refine wpAnyH_take (i := 22) (oi := ({ dst := some 148, op := Op.binOp BinOp.neq 2 (Operand.tmp 145) (Operand.tmp 147) 2, type := 4, pos := "law.go:114", after := #[{ on := 19, ground := Ground.data }, { on := 21, ground := Ground.data }, { on := 15, ground := Ground.guard }], guard := some (15, false) } : Oper)) (v := ?_) rfl (by kernel_rfl) (by kernel_rfl) (by kernel_rfl) (fun _ _ _ h => h) (Or.inl ⟨by rfl, ?_⟩) (by assumption) ?_
          rotate_left 1
          · intro w hSw
            (try dsimp only at hSw)
            go_simp
            (try with_reducible rfl)
          (try simp only [Act.put, List.setIfInBounds_toArray, List.set_cons_zero, List.set_cons_succ])
          refine wpAnyH_take (i := 23) (oi := ({ dst := some 149, op := Op.pick (Operand.tmp 141) (Operand.const (Value.bool true)) (Operand.tmp 148), type := 4, pos := "law.go:114", after := #[{ on := 15, ground := Ground.data }, { on := 22, ground := Ground.data }], guard := none } : Oper)) (v := ?_) rfl (by kernel_rfl) (by kernel_rfl) (by kernel_rfl) (fun _ _ _ h => h) (Or.inl ⟨by rfl, ?_⟩) (by assumption) ?_
          rotate_left 1
          · intro w hSw
            (try dsimp only at hSw)
            go_simp
            (try with_reducible rfl)
          (try simp only [Act.put, List.setIfInBounds_toArray, List.set_cons_zero, List.set_cons_succ])
          refine wpAnyH_take (i := 24) (oi := ({ dst := some 150, op := Op.move (Operand.tmp 149), type := 4, pos := "law.go:114", after := #[{ on := 23, ground := Ground.data }, { on := 19, ground := Ground.chain }], guard := none } : Oper)) (v := ?_) rfl (by kernel_rfl) (by kernel_rfl) (by kernel_rfl) (fun _ _ _ h => h) (Or.inl ⟨by rfl, ?_⟩) (by assumption) ?_
          rotate_left 1
          · intro w hSw
            (try dsimp only at hSw)
            go_simp
            (try with_reducible rfl)
          (try simp only [Act.put, List.setIfInBounds_toArray, List.set_cons_zero, List.set_cons_succ])
          refine wpAnyH_take (i := 25) (oi := ({ dst := some 151, op := Op.fieldAddr 37 (Operand.tmp 3) 1, type := 0, pos := "law.go:114", after := #[{ on := 24, ground := Ground.guard }], guard := some (24, false) } : Oper)) (v := ?_) rfl (by kernel_rfl) (by kernel_rfl) (by kernel_rfl) (fun _ _ _ h => h) (Or.inl ⟨by rfl, ?_⟩) (by assumption) ?_
          rotate_left 1
          · intro w hSw
            (try dsimp only at hSw)
            go_simp
            (try with_reducible rfl)
          (try simp only [Act.put, List.setIfInBounds_toArray, List.set_cons_zero, List.set_cons_succ])
          refine wpAnyH_take (i := 26) (oi := ({ dst := some 152, op := Op.load 23 (Operand.tmp 151), type := 23, pos := "law.go:114", after := #[{ on := 25, ground := Ground.data }, { on := 24, ground := Ground.guard }], guard := some (24, false) } : Oper)) (v := ?_) rfl (by kernel_rfl) (by kernel_rfl) (by kernel_rfl) (fun _ _ _ h => h) (Or.inl ⟨by rfl, ?_⟩) (by assumption) ?_
          rotate_left 1
          · intro w hSw
            (try dsimp only at hSw)
            go_simp
            (try with_reducible rfl)
          (try simp only [Act.put, List.setIfInBounds_toArray, List.set_cons_zero, List.set_cons_succ])
          refine wpAnyH_take (i := 29) (oi := ({ dst := some 155, op := Op.fieldAddr 37 (Operand.tmp 3) 1, type := 0, pos := "law.go:114", after := #[{ on := 24, ground := Ground.guard }], guard := some (24, false) } : Oper)) (v := ?_) rfl (by kernel_rfl) (by kernel_rfl) (by kernel_rfl) (fun _ _ _ h => h) (Or.inl ⟨by rfl, ?_⟩) (by assumption) ?_
          rotate_left 1
          · intro w hSw
            (try dsimp only at hSw)
            go_simp
            (try with_reducible rfl)
          (try simp only [Act.put, List.setIfInBounds_toArray, List.set_cons_zero, List.set_cons_succ])
          refine wpAnyH_take (i := 30) (oi := ({ dst := some 156, op := Op.load 23 (Operand.tmp 155), type := 23, pos := "law.go:114", after := #[{ on := 29, ground := Ground.data }, { on := 24, ground := Ground.guard }], guard := some (24, false) } : Oper)) (v := ?_) rfl (by kernel_rfl) (by kernel_rfl) (by kernel_rfl) (fun _ _ _ h => h) (Or.inl ⟨by rfl, ?_⟩) (by assumption) ?_
          rotate_left 1
          · intro w hSw
            (try dsimp only at hSw)
            go_simp
            (try with_reducible rfl)
          (try simp only [Act.put, List.setIfInBounds_toArray, List.set_cons_zero, List.set_cons_succ])
          refine wpAnyH_ready (rs := [27]) (by kernel_rfl) (by simp) ?_
          refine AllReadyH.cons (o := ({ dst := some 153, op := Op.call { callee := Callee.value (Operand.func 23), args := #[Operand.tmp 152], argTypes := #[23] }, type := 2, pos := "law.go:114", after := #[{ on := 26, ground := Ground.data }, { on := 24, ground := Ground.chain }, { on := 24, ground := Ground.guard }], guard := some (24, false) } : Oper)) rfl (fun K hK => ?_) AllReadyH.nil
          go_simp
          refine (Zag_is U Y hU HY.out _).mono ?_
          rintro e w' ⟨rfl, rfl⟩
          refine hK.out _ _ hS5 (fun _ => ?_)
          clear hK K
          (try simp only [Act.put, List.setIfInBounds_toArray, List.set_cons_zero, List.set_cons_succ])
          refine wpAnyH_ready (rs := [28]) (by kernel_rfl) (by simp) ?_
          refine AllReadyH.cons (o := ({ dst := some 154, op := Op.call { callee := Callee.value (Operand.func 21), args := #[Operand.tmp 153], argTypes := #[2] }, type := 23, pos := "law.go:114", after := #[{ on := 27, ground := Ground.data }, { on := 27, ground := Ground.chain }, { on := 24, ground := Ground.guard }], guard := some (24, false) } : Oper)) rfl (fun K hK => ?_) AllReadyH.nil
          go_simp
          refine (Zig_is Y U hy1 hy2 HY3.out _).mono ?_
          rintro e w' ⟨rfl, rfl⟩
          refine hK.out _ _ hS5 (fun _ => ?_)
          clear hK K
          (try simp only [Act.put, List.setIfInBounds_toArray, List.set_cons_zero, List.set_cons_succ])
          refine wpAnyH_take (i := 31) (oi := ({ dst := some 157, op := Op.binOp BinOp.neq 23 (Operand.tmp 154) (Operand.tmp 156) 23, type := 4, pos := "law.go:114", after := #[{ on := 28, ground := Ground.data }, { on := 30, ground := Ground.data }, { on := 24, ground := Ground.guard }], guard := some (24, false) } : Oper)) (v := ?_) rfl (by kernel_rfl) (by kernel_rfl) (by kernel_rfl) (fun _ _ _ h => h) (Or.inl ⟨by rfl, ?_⟩) (by assumption) ?_
          rotate_left 1
          · intro w hSw
            (try dsimp only at hSw)
            go_simp
            (try with_reducible rfl)
          (try simp only [Act.put, List.setIfInBounds_toArray, List.set_cons_zero, List.set_cons_succ])
          refine wpAnyH_take (i := 32) (oi := ({ dst := some 158, op := Op.pick (Operand.tmp 150) (Operand.const (Value.bool true)) (Operand.tmp 157), type := 4, pos := "law.go:114", after := #[{ on := 24, ground := Ground.data }, { on := 31, ground := Ground.data }], guard := none } : Oper)) (v := ?_) rfl (by kernel_rfl) (by kernel_rfl) (by kernel_rfl) (fun _ _ _ h => h) (Or.inl ⟨by rfl, ?_⟩) (by assumption) ?_
          rotate_left 1
          · intro w hSw
            (try dsimp only at hSw)
            go_simp
            (try with_reducible rfl)
          (try simp only [Act.put, List.setIfInBounds_toArray, List.set_cons_zero, List.set_cons_succ])
          refine wpAnyH_done (by kernel_rfl) ?_ _
          refine NoPanic.normal ?_
          clear hS5 hHeld
          have hf : I.fitOk n b sg = true ∨ I.fitOk n b sg = false := by cases I.fitOk n b sg <;> simp
          have hw : I.widOk U b sg = true ∨ I.widOk U b sg = false := by cases I.widOk U b sg <;> simp
          go_wp2_with fail
          refine (Fit_any n b sg hn1 hn2 _).mono ?_
          rintro e w6 ⟨rfl, rfl⟩
          rcases hf with hf | hf
          · obtain ⟨M, hM1, hM2, hM3, hM4⟩ := I.fit_wid hn2 hf
            rw [hf, hM1, show I.errV true = 0 from rfl]
            have HM3 := Lib.hid hM3
            have HM4 := Lib.hid hM4
            clear hM1 hM3 hM4 hf
            go_wp2_with fail
            refine (Widen_any M b sg hM2 _).mono ?_
            rintro e w6 ⟨rfl, rfl⟩
            rw [HM3.out, HM4.out, show I.errV true = 0 from rfl]
            go_wp2_with fail
            refine (Widen_any U b sg hU _).mono ?_
            rintro e w6 ⟨rfl, rfl⟩
            rcases hw with hw | hw
            · obtain ⟨⟨a1, a2⟩, a3, a4⟩ := I.wid_fit hw
              obtain ⟨V, hV⟩ : ∃ V, I.widV U b sg = V := ⟨_, rfl⟩
              rw [hw, hV, show I.errV true = 0 from rfl]
              rw [hV] at a1 a2 a3 a4
              have HV := Lib.hid a3
              have HV4 := Lib.hid a4
              clear hV a3 a4 hw
              go_wp2_with fail
              refine (Fit_any V b sg a1 a2 _).mono ?_
              rintro e w6 ⟨rfl, rfl⟩
              rw [HV.out, HV4.out, show I.errV true = 0 from rfl]
              go_wp2_with fail
              refine (awake_any _).mono ?_
              rintro e w6 ⟨rfl, hb6⟩
              go_wp2_with fail
              go_ret
              exact ⟨rfl, HBA.out.trans ((HB5.out.trans (hb6.mono HB5.out.size)).mono HBA.out.size)⟩
            · rw [hw, show I.errV false = 7 from rfl]
              go_wp2_with fail
              refine (awake_any _).mono ?_
              rintro e w6 ⟨rfl, hb6⟩
              go_wp2_with fail
              go_ret
              exact ⟨rfl, HBA.out.trans ((HB5.out.trans (hb6.mono HB5.out.size)).mono HBA.out.size)⟩
          · rw [hf, show I.errV false = 7 from rfl]
            go_wp2_with fail
            refine (Widen_any U b sg hU _).mono ?_
            rintro e w6 ⟨rfl, rfl⟩
            rcases hw with hw | hw
            · obtain ⟨⟨a1, a2⟩, a3, a4⟩ := I.wid_fit hw
              obtain ⟨V, hV⟩ : ∃ V, I.widV U b sg = V := ⟨_, rfl⟩
              rw [hw, hV, show I.errV true = 0 from rfl]
              rw [hV] at a1 a2 a3 a4
              have HV := Lib.hid a3
              have HV4 := Lib.hid a4
              clear hV a3 a4 hw
              go_wp2_with fail
              refine (Fit_any V b sg a1 a2 _).mono ?_
              rintro e w6 ⟨rfl, rfl⟩
              rw [HV.out, HV4.out, show I.errV true = 0 from rfl]
              go_wp2_with fail
              refine (awake_any _).mono ?_
              rintro e w6 ⟨rfl, hb6⟩
              go_wp2_with fail
              go_ret
              exact ⟨rfl, HBA.out.trans ((HB5.out.trans (hb6.mono HB5.out.size)).mono HBA.out.size)⟩
            · rw [hw, show I.errV false = 7 from rfl]
              go_wp2_with fail
              refine (awake_any _).mono ?_
              rintro e w6 ⟨rfl, hb6⟩
              go_wp2_with fail
              go_ret
              exact ⟨rfl, HBA.out.trans ((HB5.out.trans (hb6.mono HB5.out.size)).mono HBA.out.size)⟩
end Go.Proofs.Ythopdpgjfmpgkaa
