/- The walk of the law HmacParts. -/
import Derived.Test.YtgpgnfdbjljljaaDoorHmShown
import Derived.Test.YtgpgnfdbjljljaaDoorHmPartsIn
import Derived.Deep.RegionHeld3
namespace Go.Proofs.YtgpgnfdbjljljaaDoor
open Go.RowKit
theorem M.own_some {w : World} {base n : Nat} {v : Value} {xs : List Value} (h : w.ownsRow base 5 1 v n xs) (hn : 0 < n) : ∃ g c, v = .slice (some ⟨g, 0, none⟩) n c ∧ base ≤ g ∧ g < w.heap.size := by
  rcases h.2 with ⟨h1, h2⟩ | ⟨g, cap, cur, h1, hg, h3, _⟩
  · omega
  · exact ⟨g, cap, h1, hg, (Array.getElem?_eq_some_iff.1 h3).1⟩
theorem M.MacAt.setOther {w : World} {B H g k : Nat} {blk l : List UInt8} (h : M.MacAt w B H blk l) (v : Value) (hB : B ≠ g) (hH : H ≠ g) : M.MacAt (w.setCell ⟨g, k, none⟩ v) B H blk l :=
  ⟨h.len, h.ne, (((S.But.refl g w).setCell k none v)).row h.row hB, (((S.But.refl g w).setCell k none v)).hash h.hash hH⟩
set_option linter.unusedSimpArgs false in
set_option maxRecDepth 100000 in
set_option maxHeartbeats 4000000 in
theorem HmacParts_walk (A A2 : Option Addr) (c c2 : Nat) (key : List UInt8) (ps : List (List UInt8)) (w : World) (hK : S.SLaid w) (hin : BytesIn w w.heap.size A c key) (hps : PartsIn w w.heap.size A2 ps) (hl : ps.length ≤ 9223372036854775807) :
    Calls Tryd.prog 10 #[.slice A key.length c, .slice A2 ps.length c2] w fun e w' => e = .returned (.bool true) ∧ Below w.heap.size w w' := by
  have h2 := hK.lt.1
  have HK := Lib.hid hK
  obtain ⟨n, hn⟩ : ∃ n, n = ps.length := ⟨_, rfl⟩
  rw [← hn] at hl ⊢
  have HN := Lib.hid hn
  clear hn hK
  have hcap := Nat.le_trans hin.le hin.cap
  unfold maxLen at hcap
  by_cases hs : n ≤ 10 ∧ key.length ≤ 300
  · have HNew := Lib.hid (fun (A5 : Option Addr) (c5 : Nat) w hw hi => MNew_any A5 c5 key w hw hi (by omega))
    have HTg := Lib.hid (fun (A5 : Option Addr) (c5 : Nat) (l : List UInt8) (hl : l.length ≤ 10000) w hw hi hi2 => HTag_any A A5 c c5 key l w hw hi hi2 (by omega) (by omega))
    obtain ⟨N1, HN1⟩ : ∃ N, Hid (N = key.length) := ⟨_, Lib.hid rfl⟩
    have hkM : key.length ≤ 1000000 := by omega
    rw [← HN1.out] at hs hcap HNew HTg ⊢
    obtain ⟨BK, HBK⟩ : ∃ BK, Hid (BK = M.block key) := ⟨_, Lib.hid rfl⟩
    rw [← HBK.out] at HNew
    have HTE := Lib.hid (show ∀ l, M.tagOf BK l = M.tag key l from fun l => by rw [HBK.out]; rfl)
    have hn1 : ¬ (300 : Int) < (N1 : Int) := by omega
    have hn10 : ¬ (10 : Int) < (n : Int) := by omega
    have hN1 : N1 ≤ 300 := hs.2
    have h10 : n ≤ 10 := hs.1
    have HI := Lib.hid hin
    have HPS := Lib.hid hps
    have hown0 : (w.alloc (.cells #[] 5)).ownsRow w.heap.size 5 1 (.slice (some ⟨w.heap.size, 0, none⟩) 0 0) ([] : List UInt8).length (([] : List UInt8).map S.byteV) := World.ownsRow_lit (base := w.heap.size) (e := 5) (size := 1) w #[] 0 (Nat.le_refl _) (by decide) rfl
    have hb00 : Below w.heap.size w (w.alloc (.cells #[] 5)) := (Below.refl _ _).alloc (Nat.le_refl _) _
    have hin0 := hin.below hb00
    have h0M : (0 : Nat) ≤ 1000000 := by omega
    clear hin hps hs hcap
    go_enter Tryd.func10, Tryd.ntmps10
    go_wp2_with (at_builtin; refine push_bytes w (w.alloc (.cells #[] 5)) rfl (.tmp 24) (.tmp 25) rfl w.heap.size _ [] rfl hown0 w.heap.size A c N1 key HN1.out rfl hin0 (Nat.le_refl _) hb00 h0M hkM ?_; intro v1 w1 hown1 hb1 _; rw [List.nil_append, ← HN1.out] at hown1; have hg5 := fun h => M.own_some hown1 h; obtain ⟨A5, c5, rfl, _⟩ := S.own_slice hown1)
    have hin5 := BytesIn.of_own hown1
    have hsz1 := hb1.size
    refine (HNew.out A5 c5 _ (HK.out.below hb1 (by omega)) hin5).mono ?_
    rintro e w2 ⟨B, H, rfl, hm2, hb2, hB, hH⟩
    have hown2 := own_below hown1 hb2
    have hb02 := hb1.trans (hb2.mono hb1.size)
    have HG5 := Lib.hid hg5
    clear hown0 hb00 hin0 hin5 hown1 hb1 hb2 hg5 hkM h0M
    go_wp2_with fail
    go_loopw [7] (fun i wr => ∃ (k : Nat) (xs : List UInt8), k ≤ N1 ∧ i = .int .i64 k ∧ xs.length = N1 ∧ wr.ownsRow w.heap.size 5 1 (.slice A5 N1 c5) N1 (xs.map S.byteV) ∧ M.MacAt wr B H BK [] ∧ Below w.heap.size w wr) (fun i _ => N1 - (intOf i).toNat)
    case atStart => exact ⟨0, key, Nat.zero_le _, rfl, HN1.out.symm, hown2, hm2, hb02⟩
    case round =>
      clear hown2 hm2 hb02
      obtain ⟨k, xs, hk, rfl, hxl, hown, hm, hbel⟩ := hrel
      by_cases hlt : k < N1
      · obtain ⟨g, cg, hA, hg1, hg2⟩ := HG5.out (by omega)
        injection hA with hA hA2 hA3
        subst hA
        have hkx : k < xs.length := by omega
        have hc := (hown.cellAt k (by omega)).trans (show (xs.map S.byteV)[k]? = some (.int .u8 (xs[k].toNat : Int)) by rw [List.getElem?_map, List.getElem?_eq_getElem hkx]; rfl)
        have hf := hown.frozenAt k
        have hx := u8_xor_nat xs[k].toNat 255 xs[k].toNat_lt (by decide)
        have hy2 : xs[k].toNat ^^^ 255 < 256 := Nat.xor_lt_two_pow (n := 8) xs[k].toNat_lt (by decide)
        generalize xs[k].toNat = y at hc hx hy2
        obtain ⟨r, hr⟩ : ∃ r, r = y ^^^ 255 := ⟨_, rfl⟩
        rw [← hr] at hx hy2
        have hst := (hown.stored k (.int .u8 (r : Int))).1
        rw [show (Value.int .u8 (r : Int)) = S.byteV (UInt8.ofNat r) by rw [S.byteV, UInt8.toNat_ofNat', Nat.mod_eq_of_lt (by simpa using hy2)], ← List.map_set, show S.byteV (UInt8.ofNat r) = (Value.int .u8 (r : Int)) by rw [S.byteV, UInt8.toNat_ofNat', Nat.mod_eq_of_lt (by simpa using hy2)]] at hst
        have HST := Lib.hid hst
        have hx' : bits .xor .u8 (y : Int) 255 = (r : Int) := hx
        clear hr hkx hst hown hx hA2 hA3
        go_wp2_with fail
        go_roundw
        case rel => exact ⟨k + 1, _, by omega, by go_num, by rw [List.length_set]; exact hxl, HST.out, hm.setOther _ (by omega) (by omega), hbel.setCell hg1 _⟩
        case measure => simp [intOf]; omega
      · obtain rfl : k = N1 := by omega
        have hBl := hm.row.lt
        have hHl := hm.hash.lt
        have hH2 : 2 ≤ H := by omega
        have HBl := Lib.hid hbel
        have hsz := hbel.size
        clear hown hxl hlt hk HNew HG5 hbel
        obtain ⟨wl, hwl⟩ : ∃ wl : World, wl = wr := ⟨_, rfl⟩
        rw [← hwl] at hBl hHl hm HBl hsz ⊢
        clear hwl
        go_wp2_with fail
        have hcz : (S.cat ps 0).length = 0 := by simp [S.cat]
        go_loopw [8, 9] (fun v i wr => ∃ k : Nat, k ≤ n ∧ i = .int .i64 k ∧ wr.ownsRow wl.heap.size 5 1 v (S.cat ps k).length ((S.cat ps k).map S.byteV) ∧ (S.cat ps k).length ≤ 200 * k ∧ M.MacAt wr B H BK (S.cat ps k) ∧ Below w.heap.size w wr ∧ wl.heap.size ≤ wr.heap.size) (fun _ i _ => n - (intOf i).toNat)
        case atStart => exact ⟨0, Nat.zero_le _, rfl, World.ownsRow_nil _ _ _ _, by omega, hm, HBl.out, Nat.le_refl _⟩
        case round =>
          clear hm hcz
          obtain ⟨k, hk, rfl, hown, hcl, hm, hbel, hszl⟩ := hrel
          by_cases hlt : k < n
          · have hget : ps[k]? = some ps[k] := List.getElem?_eq_getElem (by rw [← HN.out]; exact hlt)
            obtain ⟨ad, rfl, hadB, Ai, ci, hcell, hin⟩ := HPS.out.cells k _ hget
            have hcat := S.cat_next hget
            generalize ps[k] = l at hget hcell hin hcat
            have hcell' := (hbel.cell (p := ad.add k) (by rw [add_block]; exact hadB)).trans hcell
            have hin' := hin.below hbel
            obtain ⟨m, hmm⟩ : ∃ m, m = l.length := ⟨_, rfl⟩
            rw [← hmm] at hcell'
            have HM := Lib.hid hmm
            have hmc := hin'.le
            have hmcap := hin'.cap
            unfold maxLen at hmcap
            rw [← hmm] at hmc
            have HC := Lib.hid hcat
            clear hget hcell hin hcat hmm
            by_cases h200 : m ≤ 200
            · have hcat2 : (S.cat ps k ++ l).length ≤ 200 * (k + 1) := by rw [List.length_append, ← HM.out]; omega
              have hlb : l.length ≤ 200 := by rw [← HM.out]; exact h200
              generalize S.cat ps k = done at hown hcl hm HC hcat2
              go_wp2_with fail
              rw [HM.out]
              have hbB : Below w.heap.size w wr := hbel
              refine (MWrite_any B H BK done Ai ci l wr (HK.out.below hbel (by omega)) hH2 hm (hin'.more hbel.size) (fun h0 => hin'.apart (C := w.heap.size) (by omega) h0) (by omega)).mono ?_
              rintro e w3 ⟨rfl, hm3, hbut3⟩
              have hown3 := own_but hown hbut3 hHl
              have hbl3 := hbut3.below (C := w.heap.size) (by omega) hbel.size
              have hb3 := hbel.trans hbl3
              have hin3 := hin'.below hbl3
              have hcell3 : w3.cell? (ad.add k) = some (.slice Ai m ci) := (hbl3.cell (p := ad.add k) (by rw [add_block]; exact hadB)).trans hcell'
              have hsz3 := Nat.le_trans hszl hbut3.size
              clear hcell' hown hm hbut3 hbel hszl hbl3 hbB
              rw [← HM.out]
              have hlM : l.length ≤ 1000000 := by omega
              have hdM : done.length ≤ 1000000 := by rw [List.length_append] at hcat2; omega
              go_wp2_with (at_builtin; refine push_bytes w3 w3 rfl (.tmp 62) (.tmp 66) rfl wl.heap.size _ done rfl hown3 w.heap.size Ai ci m l HM.out rfl hin3 hsz3 (Below.refl _ _) hdM hlM ?_; intro v4 w4 hown4 hb4 hg4; have hm4 := hm3.below hb4 hBl hHl; clear hg4 hcell3)
              have hbw4 := hb3.trans (hb4.mono hsz)
              have hsz4 := Nat.le_trans hsz3 hb4.size
              have hl4 : (done ++ l).length ≤ 10000 := by omega
              have hfull := hcat2
              rw [← HC.out] at hm4 hown4 hl4 hfull
              obtain ⟨full, HF⟩ : ∃ full, Hid (S.cat ps (k + 1) = full) := ⟨_, Lib.hid rfl⟩
              rw [HF.out] at hm4 hown4 hl4 hfull
              clear HC hcat2 hm3 hb3 hown3 hin3 hin' hb4 hlM hdM
              refine (MTag_any B H BK full w4 (HK.out.below hbw4 (by omega)) hm4 (by omega)).mono ?_
              rintro e w5 ⟨rfl, hb5⟩
              have hm5 := hm4.below hb5 hm4.row.lt hm4.hash.lt
              have hown5 := own_below hown4 hb5
              have hbw5 := hbw4.trans (hb5.mono hbw4.size)
              have hsz5 := Nat.le_trans hsz4 hb5.size
              clear hm4 hown4 hb5 hbw4
              obtain ⟨A3, c3, rfl, _⟩ := S.own_slice hown5
              rw [HTE.out]
              have hcall := fun w hw hi hi2 => HTg.out A3 c3 full hl4 w hw hi hi2
              have heq0 := fun W => S.eq_d32 (M.tag key full) (M.tag_len _ _) W
              obtain ⟨D, HD⟩ : ∃ D, Hid (D = (M.tag key full).map S.byteV) := ⟨_, Lib.hid rfl⟩
              have HDl := Lib.hid (show D.length = 32 by rw [HD.out, List.length_map, M.tag_len])
              have HDi := Lib.hid (show (Tryd.prog.info? 22).map (·.size) = some D.toArray.size by rw [S.info_d32]; simp [HDl.out])
              have HD1 := Lib.hid (show D.toArray.all (·.oneCell') = true by rw [HD.out]; exact S.bvals_one _)
              rw [← HD.out] at hcall heq0 ⊢
              have heq : ∀ W, (Op.equalIn 10000 22 (.agg D.toArray) (.agg D.toArray)).run Tryd.prog W = .ok true W := heq0
              have hgd := S.guard_d32
              have HCALL := Lib.hid hcall
              clear heq0 hcall
              go_wp2_with (refine S.wpList_store_but rfl 22 (.tmp 11) (.tmp 71) rfl w5.heap.size D rfl rfl _ _ (S.Row.made (l := List.replicate 32 (S.byteV 0)) _ _ _ rfl rfl) HDi.out (by rw [HDl.out]; rfl) HD1.out ?_; intro w6 hr6 hbut6; have hb56 := ((Below.refl w5.heap.size w5).alloc (Nat.le_refl _) (.cells (Array.replicate 32 (S.byteV 0)) 22)).trans (hbut6.below (C := w5.heap.size) (Nat.le_refl _) (by simp)); have hm6 := hm5.below hb56 hm5.row.lt hm5.hash.lt; have hown6 := own_below hown5 hb56; have HW6 := Lib.hid (hbw5.trans (hb56.mono hbw5.size)); have hsz6 := Nat.le_trans hsz5 hb56.size; clear hb56 hbut6 hm5 hown5 hbw5)
              have hin6 : BytesIn w6.drew w6.drew.heap.size A3 c3 full := (BytesIn.of_own hown6).drewN 1
              refine wp_region_noPanic ?_
              refine wp_region_held_drew (S := fun W => S.Row W w5.heap.size 22 D) (by kernel_rfl) hr6 (fun hHeld => ?_)
              refine wpAnyH_take (i := 0) (oi := ({ dst := some 73, op := Op.move (Operand.tmp 10), type := 24, pos := "law.go:96", after := #[], guard := none } : Oper)) (v := ?_) rfl (by kernel_rfl) (by kernel_rfl) (by kernel_rfl) (fun _ _ _ h => h) (Or.inl ⟨by rfl, ?_⟩) (by assumption) ?_
              rotate_left 1
              · intro w hSw
                (try dsimp only at hSw)
                go_simp
                (try with_reducible rfl)
              (try simp only [Act.put, List.setIfInBounds_toArray, List.set_cons_zero, List.set_cons_succ])
              refine wpAnyH_take (i := 1) (oi := ({ dst := some 74, op := Op.binOp BinOp.neq 24 (Operand.tmp 73) (Operand.const (Value.int IntKind.i64 0)) 24, type := 4, pos := "law.go:96", after := #[{ on := 0, ground := Ground.data }], guard := none } : Oper)) (v := ?_) rfl (by kernel_rfl) (by kernel_rfl) (by kernel_rfl) (fun _ _ _ h => h) (Or.inl ⟨by rfl, ?_⟩) (by assumption) ?_
              rotate_left 1
              · intro w hSw
                (try dsimp only at hSw)
                go_simp
                (try with_reducible rfl)
              (try simp only [Act.put, List.setIfInBounds_toArray, List.set_cons_zero, List.set_cons_succ])
              refine wpAnyH_take (i := 2) (oi := ({ dst := some 75, op := Op.move (Operand.tmp 74), type := 4, pos := "law.go:96", after := #[{ on := 1, ground := Ground.data }], guard := none } : Oper)) (v := ?_) rfl (by kernel_rfl) (by kernel_rfl) (by kernel_rfl) (fun _ _ _ h => h) (Or.inl ⟨by rfl, ?_⟩) (by assumption) ?_
              rotate_left 1
              · intro w hSw
                (try dsimp only at hSw)
                go_simp
                (try with_reducible rfl)
              (try simp only [Act.put, List.setIfInBounds_toArray, List.set_cons_zero, List.set_cons_succ])
              refine wpAnyH_take (i := 3) (oi := ({ dst := some 76, op := Op.move (Operand.tmp 12), type := 24, pos := "law.go:96", after := #[{ on := 2, ground := Ground.guard }], guard := some (2, false) } : Oper)) (v := ?_) rfl (by kernel_rfl) (by kernel_rfl) (by kernel_rfl) (fun _ _ _ h => h) (Or.inl ⟨by rfl, ?_⟩) (by assumption) ?_
              rotate_left 1
              · intro w hSw
                (try dsimp only at hSw)
                go_simp
                (try with_reducible rfl)
              (try simp only [Act.put, List.setIfInBounds_toArray, List.set_cons_zero, List.set_cons_succ])
              refine wpAnyH_take (i := 4) (oi := ({ dst := some 77, op := Op.binOp BinOp.neq 24 (Operand.tmp 76) (Operand.const (Value.int IntKind.i64 0)) 24, type := 4, pos := "law.go:96", after := #[{ on := 3, ground := Ground.data }, { on := 2, ground := Ground.guard }], guard := some (2, false) } : Oper)) (v := ?_) rfl (by kernel_rfl) (by kernel_rfl) (by kernel_rfl) (fun _ _ _ h => h) (Or.inl ⟨by rfl, ?_⟩) (by assumption) ?_
              rotate_left 1
              · intro w hSw
                (try dsimp only at hSw)
                go_simp
                (try with_reducible rfl)
              (try simp only [Act.put, List.setIfInBounds_toArray, List.set_cons_zero, List.set_cons_succ])
              refine wpAnyH_take (i := 5) (oi := ({ dst := some 78, op := Op.pick (Operand.tmp 75) (Operand.const (Value.bool true)) (Operand.tmp 77), type := 4, pos := "law.go:96", after := #[{ on := 2, ground := Ground.data }, { on := 4, ground := Ground.data }], guard := none } : Oper)) (v := ?_) rfl (by kernel_rfl) (by kernel_rfl) (by kernel_rfl) (fun _ _ _ h => h) (Or.inl ⟨by rfl, ?_⟩) (by assumption) ?_
              rotate_left 1
              · intro w hSw
                (try dsimp only at hSw)
                go_simp
                (try with_reducible rfl)
              (try simp only [Act.put, List.setIfInBounds_toArray, List.set_cons_zero, List.set_cons_succ])
              refine wpAnyH_take (i := 6) (oi := ({ dst := some 79, op := Op.move (Operand.tmp 78), type := 4, pos := "law.go:96", after := #[{ on := 5, ground := Ground.data }, { on := 2, ground := Ground.chain }], guard := none } : Oper)) (v := ?_) rfl (by kernel_rfl) (by kernel_rfl) (by kernel_rfl) (fun _ _ _ h => h) (Or.inl ⟨by rfl, ?_⟩) (by assumption) ?_
              rotate_left 1
              · intro w hSw
                (try dsimp only at hSw)
                go_simp
                (try with_reducible rfl)
              (try simp only [Act.put, List.setIfInBounds_toArray, List.set_cons_zero, List.set_cons_succ])
              refine wpAnyH_take (i := 7) (oi := ({ dst := some 80, op := Op.load 22 (Operand.tmp 11), type := 22, pos := "law.go:96", after := #[{ on := 6, ground := Ground.guard }], guard := some (6, false) } : Oper)) (v := .agg D.toArray) rfl (by kernel_rfl) (by kernel_rfl) (by kernel_rfl) (fun _ _ _ h => h) (Or.inl ⟨by rfl, ?_⟩) (by assumption) ?_
              · exact fun W hSw => S.run_load_part W _ _ _ (.tmp 11) rfl w5.heap.size 0 rfl D.toArray _ (fun j v hj => by rw [Nat.zero_add]; exact S.Row.cell hSw hj) Tryd.underlying22 rfl HDi.out
              (try simp only [Act.put, List.setIfInBounds_toArray, List.set_cons_zero, List.set_cons_succ])
              refine wpAnyH_take (i := 8) (oi := ({ dst := some 81, op := Op.move (Operand.tmp 0), type := 33, pos := "law.go:96", after := #[{ on := 6, ground := Ground.guard }], guard := some (6, false) } : Oper)) (v := ?_) rfl (by kernel_rfl) (by kernel_rfl) (by kernel_rfl) (fun _ _ _ h => h) (Or.inl ⟨by rfl, ?_⟩) (by assumption) ?_
              rotate_left 1
              · intro w hSw
                (try dsimp only at hSw)
                go_simp
                (try with_reducible rfl)
              (try simp only [Act.put, List.setIfInBounds_toArray, List.set_cons_zero, List.set_cons_succ])
              refine wpAnyH_take (i := 9) (oi := ({ dst := some 82, op := Op.move (Operand.tmp 8), type := 33, pos := "law.go:96", after := #[{ on := 6, ground := Ground.guard }], guard := some (6, false) } : Oper)) (v := ?_) rfl (by kernel_rfl) (by kernel_rfl) (by kernel_rfl) (fun _ _ _ h => h) (Or.inl ⟨by rfl, ?_⟩) (by assumption) ?_
              rotate_left 1
              · intro w hSw
                (try dsimp only at hSw)
                go_simp
                (try with_reducible rfl)
              (try simp only [Act.put, List.setIfInBounds_toArray, List.set_cons_zero, List.set_cons_succ])
              refine wpAnyH_ready (rs := [10]) (by kernel_rfl) (by simp) ?_
              refine AllReadyH.cons (o := ({ dst := some 83, op := Op.call { callee := Callee.value (Operand.func 34), args := #[Operand.tmp 81, Operand.tmp 82], argTypes := #[33, 33] }, type := 22, pos := "law.go:96", after := #[{ on := 8, ground := Ground.data }, { on := 9, ground := Ground.data }, { on := 6, ground := Ground.chain }, { on := 6, ground := Ground.guard }], guard := some (6, false) } : Oper)) rfl (fun K hK => ?_) AllReadyH.nil
              go_simp
              refine (HCALL.out w6.drew (HK.out.below HW6.out.drew (by omega)) ((HI.out.below HW6.out.drew).more HW6.out.drew.size) hin6).mono ?_
              rintro e w7 ⟨rfl, hb7⟩
              have hb7 : Below w6.heap.size w6 w7 := (Below.refl _ w6).drew.trans hb7
              have hm7 := hm6.below hb7 hm6.row.lt hm6.hash.lt
              have hown7 := own_below hown6 hb7
              have HB7 := Lib.hid (HW6.out.trans (hb7.mono HW6.out.size))
              have hsz7 := Nat.le_trans hsz6 hb7.size
              refine hK.out _ _ (hr6.below hb7 hr6.lt) (fun _ => ?_)
              clear hK K hHeld hb7
              (try simp only [Act.put, List.setIfInBounds_toArray, List.set_cons_zero, List.set_cons_succ])
              refine wpAnyH_take (i := 11) (oi := ({ dst := some 84, op := Op.binOp BinOp.neq 22 (Operand.tmp 80) (Operand.tmp 83) 22, type := 4, pos := "law.go:96", after := #[{ on := 7, ground := Ground.data }, { on := 10, ground := Ground.data }, { on := 6, ground := Ground.guard }], guard := some (6, false) } : Oper)) (v := ?_) rfl (by kernel_rfl) (by kernel_rfl) (by kernel_rfl) (fun _ _ _ h => h) (Or.inl ⟨by rfl, ?_⟩) (by assumption) ?_
              rotate_left 1
              · intro w hSw
                (try dsimp only at hSw)
                go_simp
                (try with_reducible rfl)
              (try simp only [Act.put, List.setIfInBounds_toArray, List.set_cons_zero, List.set_cons_succ])
              refine wpAnyH_take (i := 12) (oi := ({ dst := some 85, op := Op.pick (Operand.tmp 79) (Operand.const (Value.bool true)) (Operand.tmp 84), type := 4, pos := "law.go:96", after := #[{ on := 6, ground := Ground.data }, { on := 11, ground := Ground.data }], guard := none } : Oper)) (v := ?_) rfl (by kernel_rfl) (by kernel_rfl) (by kernel_rfl) (fun _ _ _ h => h) (Or.inl ⟨by rfl, ?_⟩) (by assumption) ?_
              rotate_left 1
              · intro w hSw
                (try dsimp only at hSw)
                go_simp
                (try with_reducible rfl)
              (try simp only [Act.put, List.setIfInBounds_toArray, List.set_cons_zero, List.set_cons_succ])
              refine wpAnyH_done (by kernel_rfl) ?_ _
              refine NoPanic.normal ?_
              clear hm6 hown6 hin6 hr6 HCALL
              rw [← HF.out] at hm7 hown7 hfull
              rw [← HF.out]
              go_wp2_with fail
              go_roundw
              case rel => exact ⟨k + 1, by omega, by go_num, hown7, hfull, hm7, HB7.out, hsz7⟩
              case measure => simp [intOf]; omega
            · have hmB : (200 : Int) < (m : Int) := by omega
              have HB := Lib.hid hbel
              clear hown hm hcl HC hin' hbel hszl
              go_wp2_with fail
              refine (hshown_any _ (HK.out.below HB.out (by omega))).mono ?_
              rintro e w3 ⟨rfl, hb3⟩
              have HB3 := Lib.hid (HB.out.trans (hb3.mono HB.out.size))
              clear hb3 hcell'
              go_wp2_with fail
              go_ret
              exact ⟨rfl, HB3.out⟩
          · obtain rfl : k = n := by omega
            have HB := Lib.hid hbel
            generalize S.cat ps k = full at hown hcl hm
            clear hown hszl hcl hbel
            go_wp2_with fail
            refine (MReset_any B H BK full wr (HK.out.below HB.out (by omega)) hm).mono ?_
            rintro e w3 ⟨G, rfl, hm3, hbut3, hG⟩
            have hb3 := HB.out.trans (hbut3.below (C := w.heap.size) (by omega) HB.out.size)
            clear hm hbut3 hG
            go_wp2_with fail
            refine (MTag_any B G BK [] w3 (HK.out.below hb3 (by omega)) hm3 (by simp)).mono ?_
            rintro e w5 ⟨rfl, hb5⟩
            have hbw5 := hb3.trans (hb5.mono hb3.size)
            clear hm3 hb3 hb5
            rw [HTE.out]
            have hcall := fun w hw hi hi2 => HTg.out none 0 [] (by simp) w hw hi hi2
            have heq0 := fun W => S.eq_d32 (M.tag key []) (M.tag_len _ _) W
            obtain ⟨D, HD⟩ : ∃ D, Hid (D = (M.tag key []).map S.byteV) := ⟨_, Lib.hid rfl⟩
            have HDl := Lib.hid (show D.length = 32 by rw [HD.out, List.length_map, M.tag_len])
            have HDi := Lib.hid (show (Tryd.prog.info? 22).map (·.size) = some D.toArray.size by rw [S.info_d32]; simp [HDl.out])
            have HD1 := Lib.hid (show D.toArray.all (·.oneCell') = true by rw [HD.out]; exact S.bvals_one _)
            rw [← HD.out] at hcall heq0 ⊢
            have heq : ∀ W, (Op.equalIn 10000 22 (.agg D.toArray) (.agg D.toArray)).run Tryd.prog W = .ok true W := heq0
            have hgd := S.guard_d32
            have HCALL := Lib.hid hcall
            clear heq0 hcall
            go_wp2_with (refine S.wpList_store_but rfl 22 (.tmp 13) (.tmp 92) rfl w5.heap.size D rfl rfl _ _ (S.Row.made (l := List.replicate 32 (S.byteV 0)) _ _ _ rfl rfl) HDi.out (by rw [HDl.out]; rfl) HD1.out ?_; intro w6 hr6 hbut6; have HW6 := Lib.hid ((hbw5.alloc hbw5.size (.cells (Array.replicate 32 (S.byteV 0)) 22)).trans (hbut6.below (C := w.heap.size) hbw5.size (by have := hbw5.size; simp; omega))); clear hbut6 hbw5)
            refine wp_region_noPanic ?_
            refine wp_region_held_drew (S := fun W => S.Row W w5.heap.size 22 D) (by kernel_rfl) hr6 (fun hHeld => ?_)
            refine wpAnyH_take (i := 0) (oi := ({ dst := some 94, op := Op.move (Operand.tmp 14), type := 24, pos := "law.go:104", after := #[], guard := none } : Oper)) (v := ?_) rfl (by kernel_rfl) (by kernel_rfl) (by kernel_rfl) (fun _ _ _ h => h) (Or.inl ⟨by rfl, ?_⟩) (by assumption) ?_
            rotate_left 1
            · intro w hSw
              (try dsimp only at hSw)
              go_simp
              (try with_reducible rfl)
            (try simp only [Act.put, List.setIfInBounds_toArray, List.set_cons_zero, List.set_cons_succ])
            refine wpAnyH_take (i := 1) (oi := ({ dst := some 95, op := Op.binOp BinOp.eql 24 (Operand.tmp 94) (Operand.const (Value.int IntKind.i64 0)) 24, type := 4, pos := "law.go:104", after := #[{ on := 0, ground := Ground.data }], guard := none } : Oper)) (v := ?_) rfl (by kernel_rfl) (by kernel_rfl) (by kernel_rfl) (fun _ _ _ h => h) (Or.inl ⟨by rfl, ?_⟩) (by assumption) ?_
            rotate_left 1
            · intro w hSw
              (try dsimp only at hSw)
              go_simp
              (try with_reducible rfl)
            (try simp only [Act.put, List.setIfInBounds_toArray, List.set_cons_zero, List.set_cons_succ])
            refine wpAnyH_take (i := 2) (oi := ({ dst := some 96, op := Op.move (Operand.tmp 95), type := 4, pos := "law.go:104", after := #[{ on := 1, ground := Ground.data }], guard := none } : Oper)) (v := ?_) rfl (by kernel_rfl) (by kernel_rfl) (by kernel_rfl) (fun _ _ _ h => h) (Or.inl ⟨by rfl, ?_⟩) (by assumption) ?_
            rotate_left 1
            · intro w hSw
              (try dsimp only at hSw)
              go_simp
              (try with_reducible rfl)
            (try simp only [Act.put, List.setIfInBounds_toArray, List.set_cons_zero, List.set_cons_succ])
            refine wpAnyH_take (i := 3) (oi := ({ dst := some 97, op := Op.load 22 (Operand.tmp 13), type := 22, pos := "law.go:104", after := #[{ on := 2, ground := Ground.guard }], guard := some (2, true) } : Oper)) (v := .agg D.toArray) rfl (by kernel_rfl) (by kernel_rfl) (by kernel_rfl) (fun _ _ _ h => h) (Or.inl ⟨by rfl, ?_⟩) (by assumption) ?_
            · exact fun W hSw => S.run_load_part W _ _ _ (.tmp 13) rfl w5.heap.size 0 rfl D.toArray _ (fun j v hj => by rw [Nat.zero_add]; exact S.Row.cell hSw hj) Tryd.underlying22 rfl HDi.out
            (try simp only [Act.put, List.setIfInBounds_toArray, List.set_cons_zero, List.set_cons_succ])
            refine wpAnyH_take (i := 4) (oi := ({ dst := some 98, op := Op.move (Operand.tmp 0), type := 33, pos := "law.go:104", after := #[{ on := 2, ground := Ground.guard }], guard := some (2, true) } : Oper)) (v := ?_) rfl (by kernel_rfl) (by kernel_rfl) (by kernel_rfl) (fun _ _ _ h => h) (Or.inl ⟨by rfl, ?_⟩) (by assumption) ?_
            rotate_left 1
            · intro w hSw
              (try dsimp only at hSw)
              go_simp
              (try with_reducible rfl)
            (try simp only [Act.put, List.setIfInBounds_toArray, List.set_cons_zero, List.set_cons_succ])
            refine wpAnyH_ready (rs := [5]) (by kernel_rfl) (by simp) ?_
            refine AllReadyH.cons (o := ({ dst := some 99, op := Op.call { callee := Callee.value (Operand.func 34), args := #[Operand.tmp 98, Operand.const (Value.slice none 0 0)], argTypes := #[33, 33] }, type := 22, pos := "law.go:104", after := #[{ on := 4, ground := Ground.data }, { on := 2, ground := Ground.chain }, { on := 2, ground := Ground.guard }], guard := some (2, true) } : Oper)) rfl (fun K hK => ?_) AllReadyH.nil
            go_simp
            refine (HCALL.out w6.drew (HK.out.below HW6.out.drew (by omega)) ((HI.out.below HW6.out.drew).more HW6.out.drew.size) (BytesIn.nil_ _ _)).mono ?_
            rintro e w7 ⟨rfl, hb7⟩
            have hb7 : Below w6.heap.size w6 w7 := (Below.refl _ w6).drew.trans hb7
            have hr7 := hr6.below hb7 hr6.lt
            have HB7 := Lib.hid (HW6.out.trans (hb7.mono HW6.out.size))
            refine hK.out _ _ hr7 (fun _ => ?_)
            clear hK K hHeld hb7
            (try simp only [Act.put, List.setIfInBounds_toArray, List.set_cons_zero, List.set_cons_succ])
            refine wpAnyH_take (i := 6) (oi := ({ dst := some 100, op := Op.binOp BinOp.eql 22 (Operand.tmp 97) (Operand.tmp 99) 22, type := 4, pos := "law.go:104", after := #[{ on := 3, ground := Ground.data }, { on := 5, ground := Ground.data }, { on := 2, ground := Ground.guard }], guard := some (2, true) } : Oper)) (v := ?_) rfl (by kernel_rfl) (by kernel_rfl) (by kernel_rfl) (fun _ _ _ h => h) (Or.inl ⟨by rfl, ?_⟩) (by assumption) ?_
            rotate_left 1
            · intro w hSw
              (try dsimp only at hSw)
              go_simp
              (try with_reducible rfl)
            (try simp only [Act.put, List.setIfInBounds_toArray, List.set_cons_zero, List.set_cons_succ])
            refine wpAnyH_take (i := 7) (oi := ({ dst := some 101, op := Op.pick (Operand.tmp 96) (Operand.tmp 100) (Operand.const (Value.bool false)), type := 4, pos := "law.go:104", after := #[{ on := 2, ground := Ground.data }, { on := 6, ground := Ground.data }], guard := none } : Oper)) (v := ?_) rfl (by kernel_rfl) (by kernel_rfl) (by kernel_rfl) (fun _ _ _ h => h) (Or.inl ⟨by rfl, ?_⟩) (by assumption) ?_
            rotate_left 1
            · intro w hSw
              (try dsimp only at hSw)
              go_simp
              (try with_reducible rfl)
            (try simp only [Act.put, List.setIfInBounds_toArray, List.set_cons_zero, List.set_cons_succ])
            refine wpAnyH_take (i := 8) (oi := ({ dst := some 102, op := Op.move (Operand.tmp 101), type := 4, pos := "law.go:104", after := #[{ on := 7, ground := Ground.data }, { on := 5, ground := Ground.chain }], guard := none } : Oper)) (v := ?_) rfl (by kernel_rfl) (by kernel_rfl) (by kernel_rfl) (fun _ _ _ h => h) (Or.inl ⟨by rfl, ?_⟩) (by assumption) ?_
            rotate_left 1
            · intro w hSw
              (try dsimp only at hSw)
              go_simp
              (try with_reducible rfl)
            (try simp only [Act.put, List.setIfInBounds_toArray, List.set_cons_zero, List.set_cons_succ])
            refine wpAnyH_ready (rs := [9]) (by kernel_rfl) (by simp) ?_
            refine AllReadyH.cons (o := ({ dst := some 103, op := Op.call { callee := Callee.value (Operand.func 31), args := #[], argTypes := #[] }, type := 4, pos := "law.go:104", after := #[{ on := 8, ground := Ground.chain }, { on := 8, ground := Ground.guard }], guard := some (8, true) } : Oper)) rfl (fun K hK => ?_) AllReadyH.nil
            go_simp
            refine (hshown_any _ (HK.out.below HB7.out (by omega))).mono ?_
            rintro e w8 ⟨rfl, hb8⟩
            have HB8 := Lib.hid (HB7.out.trans (hb8.mono HB7.out.size))
            refine hK.out _ _ (hr7.below hb8 hr7.lt) (fun _ => ?_)
            clear hK K hb8
            (try simp only [Act.put, List.setIfInBounds_toArray, List.set_cons_zero, List.set_cons_succ])
            refine wpAnyH_take (i := 10) (oi := ({ dst := some 104, op := Op.pick (Operand.tmp 102) (Operand.tmp 103) (Operand.const (Value.bool false)), type := 4, pos := "law.go:104", after := #[{ on := 8, ground := Ground.data }, { on := 9, ground := Ground.data }], guard := none } : Oper)) (v := ?_) rfl (by kernel_rfl) (by kernel_rfl) (by kernel_rfl) (fun _ _ _ h => h) (Or.inl ⟨by rfl, ?_⟩) (by assumption) ?_
            rotate_left 1
            · intro w hSw
              (try dsimp only at hSw)
              go_simp
              (try with_reducible rfl)
            (try simp only [Act.put, List.setIfInBounds_toArray, List.set_cons_zero, List.set_cons_succ])
            refine wpAnyH_take (i := 11) (oi := ({ dst := some 4, op := Op.assign (Operand.tmp 104), type := 4, pos := "law.go:104", after := #[{ on := 10, ground := Ground.data }, { on := 9, ground := Ground.chain }, { on := 0, ground := Ground.phase }, { on := 1, ground := Ground.phase }, { on := 2, ground := Ground.phase }, { on := 3, ground := Ground.phase }, { on := 4, ground := Ground.phase }, { on := 5, ground := Ground.phase }, { on := 6, ground := Ground.phase }, { on := 7, ground := Ground.phase }, { on := 8, ground := Ground.phase }, { on := 9, ground := Ground.phase }, { on := 10, ground := Ground.phase }], guard := none } : Oper)) (v := ?_) rfl (by kernel_rfl) (by kernel_rfl) (by kernel_rfl) (fun _ _ _ h => h) (Or.inl ⟨by rfl, ?_⟩) (by assumption) ?_
            rotate_left 1
            · intro w hSw
              (try dsimp only at hSw)
              go_simp
              (try with_reducible rfl)
            (try simp only [Act.put, List.setIfInBounds_toArray, List.set_cons_zero, List.set_cons_succ])
            refine wpAnyH_done (by kernel_rfl) ?_ _
            refine NoPanic.normal ?_
            go_wp2_with fail
            go_ret
            exact ⟨rfl, HB8.out⟩
  · rcases (show 10 < n ∨ (n ≤ 10 ∧ 300 < key.length) by omega) with h | ⟨h, h'⟩
    all_goals
      generalize key.length = N1 at *
      clear hin hps
      go_enter Tryd.func10, Tryd.ntmps10
      go_wp2_with fail
      refine (hshown_any _ HK.out).mono ?_
      rintro e w3 ⟨rfl, hb3⟩
      go_wp2_with fail
      go_ret
      exact ⟨rfl, hb3⟩
end Go.Proofs.YtgpgnfdbjljljaaDoor
