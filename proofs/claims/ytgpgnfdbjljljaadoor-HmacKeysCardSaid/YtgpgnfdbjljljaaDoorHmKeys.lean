/- The walk of the law HmacKeys. -/
import Derived.Test.YtgpgnfdbjljljaaDoorHmShown
import Derived.Deep.RegionHeld3
namespace Go.Proofs.YtgpgnfdbjljljaaDoor
open Go.RowKit
theorem M.tag_long {k : List UInt8} (b : List UInt8) (h : 64 < k.length) : M.tag (S.digest k) b = M.tag k b := by unfold M.tag; rw [M.block_long h]
theorem M.tag_zeros {k : List UInt8} (b : List UInt8) {n : Nat} (h : k.length + n ≤ 64) : M.tag (k ++ List.replicate n 0) b = M.tag k b := by unfold M.tag; rw [M.block_zeros h]
set_option linter.unusedSimpArgs false in
set_option maxRecDepth 100000 in
set_option maxHeartbeats 4000000 in
theorem HmacKeys_walk (A A2 : Option Addr) (c c2 : Nat) (key b : List UInt8) (z : Nat) (hz : z < 256) (w : World) (hK : S.SLaid w) (hin : BytesIn w w.heap.size A c key) (hin2 : BytesIn w w.heap.size A2 c2 b) :
    Calls Tryd.prog 11 #[.slice A key.length c, .slice A2 b.length c2, .int .u8 z] w fun e w' => e = .returned (.bool true) ∧ Below w.heap.size w w' := by
  have h2 := hK.lt.1
  have HK := Lib.hid hK
  by_cases hs : key.length ≤ 300 ∧ b.length ≤ 300
  · have HT1 := Lib.hid (fun w hw hi hi2 => HTag_any A A2 c c2 key b w hw hi hi2 (by omega) (by omega))
    obtain ⟨D, HD⟩ : ∃ D, Hid (D = (M.tag key b).map S.byteV) := ⟨_, Lib.hid rfl⟩
    have HDl := Lib.hid (show D.length = 32 by rw [HD.out, List.length_map, M.tag_len])
    have HDi := Lib.hid (show (Tryd.prog.info? 22).map (·.size) = some D.toArray.size by rw [S.info_d32]; simp [HDl.out])
    have HD1 := Lib.hid (show D.toArray.all (·.oneCell') = true by rw [HD.out]; exact S.bvals_one _)
    have heq : ∀ W, (Op.equalIn 10000 22 (.agg D.toArray) (.agg D.toArray)).run Tryd.prog W = .ok true W := fun W => by rw [HD.out]; exact S.eq_d32 _ (M.tag_len _ _) W
    have hgd := S.guard_d32
    rw [← HD.out] at HT1
    have HLG := Lib.hid (fun (A3 : Option Addr) (c3 : Nat) (k : List UInt8) (hk : k.length ≤ 300) (hkt : M.tag k b = M.tag key b) (w : World) (hw : S.SLaid w) hi hi2 => (by have := HTag_any A3 A2 c3 c2 k b w hw hi hi2 (by omega) (by omega); rw [hkt, ← HD.out] at this; exact this : Calls Tryd.prog 34 #[.slice A3 k.length c3, .slice A2 b.length c2] w fun e w' => e = .returned (.agg D.toArray) ∧ Below w.heap.size w w'))
    have HSm := Lib.hid (fun w hw hi => Sum_any A c key w hw hi (by omega))
    obtain ⟨N1, HN1⟩ : ∃ N, Hid (N = key.length) := ⟨_, Lib.hid rfl⟩
    obtain ⟨N2, HN2⟩ : ∃ N, Hid (N = b.length) := ⟨_, Lib.hid rfl⟩
    rw [← HN1.out] at hs HT1 HSm ⊢
    rw [← HN2.out] at hs HT1 HLG ⊢
    have hn1 : ¬ (300 : Int) < (N1 : Int) := by omega
    have hn2 : ¬ (300 : Int) < (N2 : Int) := by omega
    have HI := Lib.hid hin
    have HI2 := Lib.hid hin2
    clear hin hin2 hK
    by_cases h64 : 64 < N1
    · have h64i : (64 : Int) < (N1 : Int) := by omega
      obtain ⟨d, Hd⟩ : ∃ d, Hid (d = S.digest key) := ⟨_, Lib.hid rfl⟩
      have Hdl := Lib.hid (show d.length = 32 by rw [Hd.out, S.digest_len])
      have HdI := Lib.hid (show (Tryd.prog.info? 22).map (·.size) = some (d.map S.byteV).toArray.size by rw [S.info_d32]; simp [Hdl.out])
      have HdT := Lib.hid (show M.tag d b = M.tag key b by rw [Hd.out]; exact M.tag_long b (by rw [← HN1.out]; exact h64))
      unfold S.digV at HSm
      rw [← Hd.out] at HSm
      go_enter Tryd.func11, Tryd.ntmps11
      go_wp2_with fail
      refine (HT1.out _ HK.out HI.out HI2.out).mono ?_
      rintro e w1 ⟨rfl, hb1⟩
      go_wp2_with (refine S.wpList_store_but rfl 22 (.tmp 7) (.tmp 22) rfl w1.heap.size D rfl rfl _ _ (S.Row.made (l := List.replicate 32 (S.byteV 0)) _ _ _ rfl rfl) HDi.out (by rw [HDl.out]; rfl) HD1.out ?_; intro w2 hr2 hbut2; have hb02 := (hb1.alloc hb1.size (.cells (Array.replicate 32 (S.byteV 0)) 22)).trans (hbut2.below (C := w.heap.size) hb1.size (by have := hb1.size; simp; omega)); clear hbut2 hb1)
      refine (HSm.out _ (HK.out.below hb02 (by omega)) ((HI.out.below hb02).more hb02.size)).mono ?_
      rintro e w3 ⟨rfl, hb3⟩
      have hr3 := hr2.below hb3 hr2.lt
      have hb03 := hb02.trans (hb3.mono hb02.size)
      clear hr2 hb3 hb02
      go_wp2_with (refine S.wpList_store_but rfl 22 (.tmp 8) (.tmp 27) rfl w3.heap.size (d.map S.byteV) rfl rfl _ _ (S.Row.made (l := List.replicate 32 (S.byteV 0)) _ _ _ rfl rfl) HdI.out (by simp [Hdl.out]) (S.bvals_one _) ?_; intro w4 hr4 hbut4; have hrD := hbut4.row (hr3.alloc _) (by have := hr3.lt; omega); have hb04 := (hb03.alloc hb03.size (.cells (Array.replicate 32 (S.byteV 0)) 22)).trans (hbut4.below (C := w.heap.size) hb03.size (by have := hb03.size; simp; omega)); clear hbut4 hb03 hr3)
      have hin4 := M.in_row hr4 hr4.lt (by rw [Hdl.out]; omega)
      rw [Hdl.out] at hin4
      have HB4 := Lib.hid hb04
      clear hr4 hb04
      refine wp_region_noPanic ?_
      refine wp_region_held_drew (S := fun W => S.Row W w1.heap.size 22 D) (by kernel_rfl) hrD (fun hHeld => ?_)
      refine wpAnyH_take (i := 0) (oi := ({ dst := some 28, op := Op.slice 22 (Operand.tmp 8) none none none, type := 33, pos := "law.go:115", after := #[], guard := none } : Oper)) (v := ?_) rfl (by kernel_rfl) (by kernel_rfl) (by kernel_rfl) (fun _ _ _ h => h) (Or.inl ⟨by rfl, ?_⟩) (by assumption) ?_
      rotate_left 1
      · intro w hSw
        (try dsimp only at hSw)
        go_simp
        (try with_reducible rfl)
      (try simp only [Act.put, List.setIfInBounds_toArray, List.set_cons_zero, List.set_cons_succ])
      refine wpAnyH_take (i := 1) (oi := ({ dst := some 29, op := Op.move (Operand.tmp 1), type := 33, pos := "law.go:115", after := #[], guard := none } : Oper)) (v := ?_) rfl (by kernel_rfl) (by kernel_rfl) (by kernel_rfl) (fun _ _ _ h => h) (Or.inl ⟨by rfl, ?_⟩) (by assumption) ?_
      rotate_left 1
      · intro w hSw
        (try dsimp only at hSw)
        go_simp
        (try with_reducible rfl)
      (try simp only [Act.put, List.setIfInBounds_toArray, List.set_cons_zero, List.set_cons_succ])
      refine wpAnyH_take (i := 3) (oi := ({ dst := some 31, op := Op.load 22 (Operand.tmp 7), type := 22, pos := "law.go:115", after := #[], guard := none } : Oper)) (v := .agg D.toArray) rfl (by kernel_rfl) (by kernel_rfl) (by kernel_rfl) (fun _ _ _ h => h) (Or.inl ⟨by rfl, ?_⟩) (by assumption) ?_
      · exact fun W hSw => S.run_load_part W _ _ _ (.tmp 7) rfl w1.heap.size 0 rfl D.toArray _ (fun j v hj => by rw [Nat.zero_add]; exact S.Row.cell hSw hj) Tryd.underlying22 rfl HDi.out
      (try simp only [Act.put, List.setIfInBounds_toArray, List.set_cons_zero, List.set_cons_succ])
      refine wpAnyH_ready (rs := [2]) (by kernel_rfl) (by simp) ?_
      refine AllReadyH.cons (o := ({ dst := some 30, op := Op.call { callee := Callee.value (Operand.func 34), args := #[Operand.tmp 28, Operand.tmp 29], argTypes := #[33, 33] }, type := 22, pos := "law.go:115", after := #[{ on := 0, ground := Ground.data }, { on := 1, ground := Ground.data }], guard := none } : Oper)) rfl (fun K hK => ?_) AllReadyH.nil
      go_simp
      have hlg := HLG.out (some ⟨w3.heap.size, 0, none⟩) 32 d (by rw [Hdl.out]; omega) HdT.out w4.drew (HK.out.below HB4.out.drew (by omega)) (hin4.drewN 1) ((HI2.out.below HB4.out.drew).more HB4.out.drew.size)
      rw [Hdl.out] at hlg
      refine hlg.mono ?_
      rintro e w7 ⟨rfl, hb7⟩
      have hb7 : Below w4.heap.size w4 w7 := (Below.refl _ w4).drew.trans hb7
      have hrD7 := hrD.below hb7 hrD.lt
      have HB7 := Lib.hid (HB4.out.trans (hb7.mono HB4.out.size))
      refine hK.out _ _ hrD7 (fun _ => ?_)
      clear hK K hHeld hlg hb7
      (try simp only [Act.put, List.setIfInBounds_toArray, List.set_cons_zero, List.set_cons_succ])
      refine wpAnyH_take (i := 4) (oi := ({ dst := some 32, op := Op.binOp BinOp.eql 22 (Operand.tmp 30) (Operand.tmp 31) 22, type := 4, pos := "law.go:115", after := #[{ on := 2, ground := Ground.data }, { on := 3, ground := Ground.data }], guard := none } : Oper)) (v := ?_) rfl (by kernel_rfl) (by kernel_rfl) (by kernel_rfl) (fun _ _ _ h => h) (Or.inl ⟨by rfl, ?_⟩) (by assumption) ?_
      rotate_left 1
      · intro w hSw
        (try dsimp only at hSw)
        go_simp
        (try with_reducible rfl)
      (try simp only [Act.put, List.setIfInBounds_toArray, List.set_cons_zero, List.set_cons_succ])
      refine wpAnyH_take (i := 5) (oi := ({ dst := some 33, op := Op.move (Operand.tmp 32), type := 4, pos := "law.go:115", after := #[{ on := 4, ground := Ground.data }, { on := 2, ground := Ground.chain }], guard := none } : Oper)) (v := ?_) rfl (by kernel_rfl) (by kernel_rfl) (by kernel_rfl) (fun _ _ _ h => h) (Or.inl ⟨by rfl, ?_⟩) (by assumption) ?_
      rotate_left 1
      · intro w hSw
        (try dsimp only at hSw)
        go_simp
        (try with_reducible rfl)
      (try simp only [Act.put, List.setIfInBounds_toArray, List.set_cons_zero, List.set_cons_succ])
      refine wpAnyH_ready (rs := [6]) (by kernel_rfl) (by simp) ?_
      refine AllReadyH.cons (o := ({ dst := some 34, op := Op.call { callee := Callee.value (Operand.func 31), args := #[], argTypes := #[] }, type := 4, pos := "law.go:115", after := #[{ on := 5, ground := Ground.chain }, { on := 5, ground := Ground.guard }], guard := some (5, true) } : Oper)) rfl (fun K hK => ?_) AllReadyH.nil
      go_simp
      refine (hshown_any _ (HK.out.below HB7.out (by omega))).mono ?_
      rintro e w8 ⟨rfl, hb8⟩
      have HB8 := Lib.hid (HB7.out.trans (hb8.mono HB7.out.size))
      refine hK.out _ _ (hrD7.below hb8 hrD7.lt) (fun _ => ?_)
      clear hK K hb8
      (try simp only [Act.put, List.setIfInBounds_toArray, List.set_cons_zero, List.set_cons_succ])
      refine wpAnyH_take (i := 7) (oi := ({ dst := some 35, op := Op.pick (Operand.tmp 33) (Operand.tmp 34) (Operand.const (Value.bool false)), type := 4, pos := "law.go:115", after := #[{ on := 5, ground := Ground.data }, { on := 6, ground := Ground.data }], guard := none } : Oper)) (v := ?_) rfl (by kernel_rfl) (by kernel_rfl) (by kernel_rfl) (fun _ _ _ h => h) (Or.inl ⟨by rfl, ?_⟩) (by assumption) ?_
      rotate_left 1
      · intro w hSw
        (try dsimp only at hSw)
        go_simp
        (try with_reducible rfl)
      (try simp only [Act.put, List.setIfInBounds_toArray, List.set_cons_zero, List.set_cons_succ])
      refine wpAnyH_take (i := 8) (oi := ({ dst := some 6, op := Op.assign (Operand.tmp 35), type := 4, pos := "law.go:115", after := #[{ on := 7, ground := Ground.data }, { on := 6, ground := Ground.chain }, { on := 0, ground := Ground.phase }, { on := 1, ground := Ground.phase }, { on := 2, ground := Ground.phase }, { on := 3, ground := Ground.phase }, { on := 4, ground := Ground.phase }, { on := 5, ground := Ground.phase }, { on := 6, ground := Ground.phase }, { on := 7, ground := Ground.phase }], guard := none } : Oper)) (v := ?_) rfl (by kernel_rfl) (by kernel_rfl) (by kernel_rfl) (fun _ _ _ h => h) (Or.inl ⟨by rfl, ?_⟩) (by assumption) ?_
      rotate_left 1
      · intro w hSw
        (try dsimp only at hSw)
        go_simp
        (try with_reducible rfl)
      (try simp only [Act.put, List.setIfInBounds_toArray, List.set_cons_zero, List.set_cons_succ])
      refine wpAnyH_done (by kernel_rfl) ?_ _
      refine NoPanic.normal ?_
      go_wp2_with fail
      go_ret
      exact ⟨rfl, HB8.out⟩
    · have h64i : ¬ (64 : Int) < (N1 : Int) := by omega
      have hkl : key.length ≤ 64 := by rw [← HN1.out]; omega
      go_enter Tryd.func11, Tryd.ntmps11
      go_wp2_with fail
      refine (HT1.out _ HK.out HI.out HI2.out).mono ?_
      rintro e w1 ⟨rfl, hb1⟩
      have HKL := Lib.hid hkl
      have hzl : (0 : Nat) ≤ 1000000 := by omega
      have hkl2 : key.length ≤ 1000000 := by omega
      clear hkl
      go_wp2_with (first
        | (refine S.wpList_store_but rfl 22 (.tmp 7) (.tmp 22) rfl w1.heap.size D rfl rfl _ _ (S.Row.made (l := List.replicate 32 (S.byteV 0)) _ _ _ rfl rfl) HDi.out (by rw [HDl.out]; rfl) HD1.out ?_; intro w2 hr2 hbut2; have hb02 := (hb1.alloc hb1.size (.cells (Array.replicate 32 (S.byteV 0)) 22)).trans (hbut2.below (C := w.heap.size) hb1.size (by have := hb1.size; simp; omega)); clear hbut2 hb1; have hown0 : (w2.alloc (.cells #[] 5)).ownsRow w2.heap.size 5 1 (.slice (some ⟨w2.heap.size, 0, none⟩) 0 0) ([] : List UInt8).length (([] : List UInt8).map S.byteV) := World.ownsRow_lit (base := w2.heap.size) (e := 5) (size := 1) w2 #[] 0 (Nat.le_refl _) (by decide) rfl; have hb22 : Below w2.heap.size w2 (w2.alloc (.cells #[] 5)) := (Below.refl _ _).alloc (Nat.le_refl _) _)
        | (at_builtin; refine push_bytes w2 (w2.alloc (.cells #[] 5)) rfl (.tmp 36) (.tmp 37) rfl w2.heap.size _ [] rfl hown0 w.heap.size A c N1 key HN1.out rfl ((HI.out.below hb02).below (hb22.mono hb02.size)) (Nat.le_refl _) hb22 hzl hkl2 ?_; intro v3 w3 hown3 hb3 _; rw [List.nil_append] at hown3))
      have hlt2 := hr2.lt
      clear hown0 hb22 hkl2 hzl
      go_loopw [9, 10] (fun v i wr => ∃ n : Nat, n ≤ z ∧ N1 + n ≤ 64 ∧ i = .int .i64 n ∧ wr.ownsRow w2.heap.size 5 1 v (N1 + n) ((key ++ List.replicate n 0).map S.byteV) ∧ Below w2.heap.size w2 wr) (fun _ i _ => z - (intOf i).toNat)
      case atStart => exact ⟨0, Nat.zero_le _, by omega, rfl, by simpa [HN1.out] using hown3, hb3⟩
      case round =>
        clear hown3 hb3
        obtain ⟨n, hn, hn64, rfl, hown, hbel⟩ := hrel
        obtain ⟨A3, c3, rfl, _⟩ := S.own_slice hown
        by_cases hcond : n < z ∧ N1 + n < 64
        · obtain ⟨hnz, hn64'⟩ := hcond
          have hl : (key ++ List.replicate n 0).length = N1 + n := by rw [List.length_append, List.length_replicate, HN1.out]
          have hxl : (key ++ List.replicate n 0).length ≤ 1000000 := by omega
          have HS := Lib.hid (show (key ++ List.replicate n 0) ++ [UInt8.ofNat (0 : Int).toNat] = key ++ List.replicate (n + 1) 0 by
            rw [List.replicate_succ', List.append_assoc]; rfl)
          have HL := Lib.hid hl
          have hown' := hown
          rw [← hl] at hown'
          clear hown hl
          generalize key ++ List.replicate n 0 = xs at hown' hxl HS HL
          have hci : (N1 : Int) + (n : Int) < 64 := by omega
          rw [HL.out] at hown'
          go_wp2_with (at_builtin; rw [← HL.out] at hown'; refine push_byte w2 wr 0 rfl (.tmp 50) (.tmp 51) rfl w2.heap.size _ xs (by rw [← HL.out]; rfl) rfl hown' (Nat.le_refl _) hbel (by omega) (by omega) hxl ?_; intro v4 w4 hown4 hb4)
          rw [HS.out] at hown4
          have hl2 : (key ++ List.replicate (n + 1) 0).length = N1 + (n + 1) := by rw [List.length_append, List.length_replicate, HN1.out]
          rw [hl2] at hown4
          clear hown' hbel
          go_roundw
          case rel => exact ⟨n + 1, by omega, by omega, by go_num, hown4, hb4⟩
          case measure => simp [intOf]; omega
        · have hT := Lib.hid (M.tag_zeros (k := key) b (n := n) (by rw [← HN1.out]; exact hn64))
          have hl : (key ++ List.replicate n 0).length = N1 + n := by rw [List.length_append, List.length_replicate, HN1.out]
          have HL := Lib.hid hl
          have hin4 := BytesIn.of_own hown
          clear hl
          generalize key ++ List.replicate n 0 = xs at hT HL hin4
          obtain ⟨M4, hM4⟩ : ∃ M4, M4 = N1 + n := ⟨_, rfl⟩
          rw [← hM4] at hown hn64 ⊢
          have hM4i : (N1 : Int) + (n : Int) = (M4 : Int) := by omega
          have hrD := hr2.below hbel hlt2
          have HB4 := Lib.hid (hb02.trans (hbel.mono hb02.size))
          have HM4 := Lib.hid hM4
          clear hown hbel hr2 hb02 hM4
          rcases (show ¬ n < z ∨ (n < z ∧ ¬ M4 < 64) by omega) with hc | ⟨hc, hc2⟩
          all_goals
            go_wp2_with fail
            refine wp_region_noPanic ?_
            refine wp_region_held_drew (S := fun W => S.Row W w1.heap.size 22 D) (by kernel_rfl) hrD (fun hHeld => ?_)
            refine wpAnyH_take (i := 0) (oi := ({ dst := some 53, op := Op.move (Operand.tmp 9), type := 33, pos := "law.go:121", after := #[], guard := none } : Oper)) (v := ?_) rfl (by kernel_rfl) (by kernel_rfl) (by kernel_rfl) (fun _ _ _ h => h) (Or.inl ⟨by rfl, ?_⟩) (by assumption) ?_
            rotate_left 1
            · intro w hSw
              (try dsimp only at hSw)
              go_simp
              (try with_reducible rfl)
            (try simp only [Act.put, List.setIfInBounds_toArray, List.set_cons_zero, List.set_cons_succ])
            refine wpAnyH_take (i := 1) (oi := ({ dst := some 54, op := Op.move (Operand.tmp 1), type := 33, pos := "law.go:121", after := #[], guard := none } : Oper)) (v := ?_) rfl (by kernel_rfl) (by kernel_rfl) (by kernel_rfl) (fun _ _ _ h => h) (Or.inl ⟨by rfl, ?_⟩) (by assumption) ?_
            rotate_left 1
            · intro w hSw
              (try dsimp only at hSw)
              go_simp
              (try with_reducible rfl)
            (try simp only [Act.put, List.setIfInBounds_toArray, List.set_cons_zero, List.set_cons_succ])
            refine wpAnyH_take (i := 3) (oi := ({ dst := some 56, op := Op.load 22 (Operand.tmp 7), type := 22, pos := "law.go:121", after := #[], guard := none } : Oper)) (v := .agg D.toArray) rfl (by kernel_rfl) (by kernel_rfl) (by kernel_rfl) (fun _ _ _ h => h) (Or.inl ⟨by rfl, ?_⟩) (by assumption) ?_
            · exact fun W hSw => S.run_load_part W _ _ _ (.tmp 7) rfl w1.heap.size 0 rfl D.toArray _ (fun j v hj => by rw [Nat.zero_add]; exact S.Row.cell hSw hj) Tryd.underlying22 rfl HDi.out
            (try simp only [Act.put, List.setIfInBounds_toArray, List.set_cons_zero, List.set_cons_succ])
            refine wpAnyH_ready (rs := [2]) (by kernel_rfl) (by simp) ?_
            refine AllReadyH.cons (o := ({ dst := some 55, op := Op.call { callee := Callee.value (Operand.func 34), args := #[Operand.tmp 53, Operand.tmp 54], argTypes := #[33, 33] }, type := 22, pos := "law.go:121", after := #[{ on := 0, ground := Ground.data }, { on := 1, ground := Ground.data }], guard := none } : Oper)) rfl (fun K hK => ?_) AllReadyH.nil
            go_simp
            have hlg := HLG.out A3 c3 xs (by rw [HL.out, ← HM4.out]; omega) hT.out wr.drew (HK.out.below HB4.out.drew (by omega)) (hin4.drewN 1) ((HI2.out.below HB4.out.drew).more HB4.out.drew.size)
            rw [HL.out, ← HM4.out] at hlg
            refine hlg.mono ?_
            rintro e w7 ⟨rfl, hb7⟩
            have hb7 : Below wr.heap.size wr w7 := (Below.refl _ wr).drew.trans hb7
            have hrD7 := hrD.below hb7 hrD.lt
            have HB7 := Lib.hid (HB4.out.trans (hb7.mono HB4.out.size))
            refine hK.out _ _ hrD7 (fun _ => ?_)
            clear hK K hHeld hlg hb7
            (try simp only [Act.put, List.setIfInBounds_toArray, List.set_cons_zero, List.set_cons_succ])
            refine wpAnyH_take (i := 4) (oi := ({ dst := some 57, op := Op.binOp BinOp.eql 22 (Operand.tmp 55) (Operand.tmp 56) 22, type := 4, pos := "law.go:121", after := #[{ on := 2, ground := Ground.data }, { on := 3, ground := Ground.data }], guard := none } : Oper)) (v := ?_) rfl (by kernel_rfl) (by kernel_rfl) (by kernel_rfl) (fun _ _ _ h => h) (Or.inl ⟨by rfl, ?_⟩) (by assumption) ?_
            rotate_left 1
            · intro w hSw
              (try dsimp only at hSw)
              go_simp
              (try with_reducible rfl)
            (try simp only [Act.put, List.setIfInBounds_toArray, List.set_cons_zero, List.set_cons_succ])
            refine wpAnyH_take (i := 5) (oi := ({ dst := some 58, op := Op.move (Operand.tmp 57), type := 4, pos := "law.go:121", after := #[{ on := 4, ground := Ground.data }, { on := 2, ground := Ground.chain }], guard := none } : Oper)) (v := ?_) rfl (by kernel_rfl) (by kernel_rfl) (by kernel_rfl) (fun _ _ _ h => h) (Or.inl ⟨by rfl, ?_⟩) (by assumption) ?_
            rotate_left 1
            · intro w hSw
              (try dsimp only at hSw)
              go_simp
              (try with_reducible rfl)
            (try simp only [Act.put, List.setIfInBounds_toArray, List.set_cons_zero, List.set_cons_succ])
            refine wpAnyH_ready (rs := [6]) (by kernel_rfl) (by simp) ?_
            refine AllReadyH.cons (o := ({ dst := some 59, op := Op.call { callee := Callee.value (Operand.func 31), args := #[], argTypes := #[] }, type := 4, pos := "law.go:121", after := #[{ on := 5, ground := Ground.chain }, { on := 5, ground := Ground.guard }], guard := some (5, true) } : Oper)) rfl (fun K hK => ?_) AllReadyH.nil
            go_simp
            refine (hshown_any _ (HK.out.below HB7.out (by omega))).mono ?_
            rintro e w8 ⟨rfl, hb8⟩
            have HB8 := Lib.hid (HB7.out.trans (hb8.mono HB7.out.size))
            refine hK.out _ _ (hrD7.below hb8 hrD7.lt) (fun _ => ?_)
            clear hK K hb8
            (try simp only [Act.put, List.setIfInBounds_toArray, List.set_cons_zero, List.set_cons_succ])
            refine wpAnyH_take (i := 7) (oi := ({ dst := some 60, op := Op.pick (Operand.tmp 58) (Operand.tmp 59) (Operand.const (Value.bool false)), type := 4, pos := "law.go:121", after := #[{ on := 5, ground := Ground.data }, { on := 6, ground := Ground.data }], guard := none } : Oper)) (v := ?_) rfl (by kernel_rfl) (by kernel_rfl) (by kernel_rfl) (fun _ _ _ h => h) (Or.inl ⟨by rfl, ?_⟩) (by assumption) ?_
            rotate_left 1
            · intro w hSw
              (try dsimp only at hSw)
              go_simp
              (try with_reducible rfl)
            (try simp only [Act.put, List.setIfInBounds_toArray, List.set_cons_zero, List.set_cons_succ])
            refine wpAnyH_take (i := 8) (oi := ({ dst := some 6, op := Op.assign (Operand.tmp 60), type := 4, pos := "law.go:121", after := #[{ on := 7, ground := Ground.data }, { on := 6, ground := Ground.chain }, { on := 0, ground := Ground.phase }, { on := 1, ground := Ground.phase }, { on := 2, ground := Ground.phase }, { on := 3, ground := Ground.phase }, { on := 4, ground := Ground.phase }, { on := 5, ground := Ground.phase }, { on := 6, ground := Ground.phase }, { on := 7, ground := Ground.phase }], guard := none } : Oper)) (v := ?_) rfl (by kernel_rfl) (by kernel_rfl) (by kernel_rfl) (fun _ _ _ h => h) (Or.inl ⟨by rfl, ?_⟩) (by assumption) ?_
            rotate_left 1
            · intro w hSw
              (try dsimp only at hSw)
              go_simp
              (try with_reducible rfl)
            (try simp only [Act.put, List.setIfInBounds_toArray, List.set_cons_zero, List.set_cons_succ])
            refine wpAnyH_done (by kernel_rfl) ?_ _
            refine NoPanic.normal ?_
            go_wp2_with fail
            go_ret
            exact ⟨rfl, HB8.out⟩
  · have hcap := Nat.le_trans hin.le hin.cap
    have hcap2 := Nat.le_trans hin2.le hin2.cap
    unfold maxLen at hcap hcap2
    generalize key.length = N1 at hs hcap ⊢
    generalize b.length = N2 at hs hcap2 ⊢
    clear hin hin2 hK
    rcases (show 300 < N1 ∨ (N1 ≤ 300 ∧ 300 < N2) by omega) with h | ⟨h, h'⟩
    all_goals
      go_enter Tryd.func11, Tryd.ntmps11
      go_wp2_with fail
      refine (hshown_any _ HK.out).mono ?_
      rintro e w3 ⟨rfl, hb3⟩
      go_wp2_with fail
      go_ret
      exact ⟨rfl, hb3⟩
end Go.Proofs.YtgpgnfdbjljljaaDoor
