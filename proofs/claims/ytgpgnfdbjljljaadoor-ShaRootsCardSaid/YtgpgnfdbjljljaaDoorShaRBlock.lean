/- The contract of the reference's block. -/
import Derived.Test.YtgpgnfdbjljljaaDoorShaRBits
import Derived.StillTailTactics
import Derived.Deep.QuietTactic
import Derived.BigQuiet
namespace Go.Proofs.YtgpgnfdbjljljaaDoor
open Go.RowKit
namespace S
/-- What lies in memory while the reference takes a block. -/
structure RBlk (w0 w : World) (KL : List Value) (s : St) (l : List UInt8) (W : List Nat) : Prop where
  rk : Row w w0.heap.size 50 KL
  rs : Row w (w0.heap.size + 1) 56 (vals s).toList
  rb : Row w (w0.heap.size + 1 + 1) 60 (l.map byteV)
  rr : Row w (w0.heap.size + 1 + 1 + 1) 56 (List.replicate 8 (wordV 0))
  rw_ : Row w (w0.heap.size + 1 + 1 + 1 + 1) 50 (W.map wordV)
  bel : Below w0.heap.size w0 w
theorem RBlk.drew {w0 w : World} {KL : List Value} {s : St} {l : List UInt8} {W : List Nat} (h : RBlk w0 w KL s l W) : RBlk w0 w.drew KL s l W := ⟨h.rk, h.rs, h.rb, h.rr, h.rw_, h.bel.drew⟩
theorem RBlk.drewN {w0 w : World} {KL : List Value} {s : St} {l : List UInt8} {W : List Nat} (h : RBlk w0 w KL s l W) (n : Nat) : RBlk w0 (w.drewN n) KL s l W := ⟨h.rk, h.rs, h.rb, h.rr, h.rw_, below_drewN h.bel n⟩
theorem RBlk.set {w0 w : World} {KL : List Value} {s : St} {l : List UInt8} {W : List Nat} (h : RBlk w0 w KL s l W) (k : Nat) (v : Value) {W' : List Nat} (hW : (W.map wordV).set k v = W'.map wordV) : RBlk w0 (w.setCell ⟨w0.heap.size + 1 + 1 + 1 + 1, k, none⟩ v) KL s l W' :=
  ⟨h.rk.setOther _ (by simp; omega) _, h.rs.setOther _ (by simp) _, h.rb.setOther _ (by simp) _, h.rr.setOther _ (by simp) _, hW ▸ h.rw_.set k v, h.bel.setCell (by simp; omega) _⟩
theorem RBlk.alloc {w0 w : World} {KL : List Value} {s : St} {l : List UInt8} {W : List Nat} (h : RBlk w0 w KL s l W) (o : Obj) : RBlk w0 (w.alloc o) KL s l W := ⟨h.rk.alloc o, h.rs.alloc o, h.rb.alloc o, h.rr.alloc o, h.rw_.alloc o, h.bel.alloc h.bel.size o⟩
theorem RBlk.lt {w0 w : World} {KL : List Value} {s : St} {l : List UInt8} {W : List Nat} (h : RBlk w0 w KL s l W) : w0.heap.size + 1 + 1 + 1 + 1 < w.heap.size := h.rw_.lt
theorem RBlk.but {w0 w w' : World} {KL : List Value} {s : St} {l : List UInt8} {W : List Nat} {B : Nat} (h : RBlk w0 w KL s l W) (hb : But B w w') (hB : w0.heap.size + 1 + 1 + 1 + 1 < B) : RBlk w0 w' KL s l W :=
  ⟨hb.row h.rk (by omega), hb.row h.rs (by omega), hb.row h.rb (by omega), hb.row h.rr (by omega), hb.row h.rw_ (by omega), h.bel.trans (hb.below (by omega) h.bel.size)⟩
theorem fill_word' (l : List UInt8) {k : Nat} (h : k < 16) : ((fill l k).map wordV).set k (.int .u32 (wordOf (at_ l (4 * k)) (at_ l (4 * k + 1)) (at_ l (4 * k + 2)) (at_ l (4 * k + 3)) : Nat)) = (fill l (k + 1)).map wordV := by
  rw [Nat.mul_comm 4 k]; exact fill_word l h
theorem K_at {k : Nat} (h : k < 64) : (K.map wordV)[k]? = some (.int .u32 (K.getD k 0 : Nat)) := by
  have : k < K.length := h
  rw [List.getElem?_map, List.getElem?_eq_getElem this, List.getD_eq_getElem?_getD, List.getElem?_eq_getElem this]
  rfl
theorem ru_eq (st : St) (x c : Nat) (he : st.e < 4294967296) (hf : st.f < 4294967296) (hg : st.g < 4294967296) :
    IntKind.u32.wrap (IntKind.u32.wrap (IntKind.u32.wrap (IntKind.u32.wrap ((st.h : Int) + bits .xor .u32 (bits .xor .u32 (rot st.e 6 : Nat) (rot st.e 11 : Nat)) (rot st.e 25 : Nat)) + bits .xor .u32 (bits .and .u32 (st.e : Int) st.f) (bits .and .u32 (bits .xor .u32 4294967295 st.e) st.g)) + (c : Int)) + (x : Int)) = (uV st ((c + x) % 4294967296) : Nat) := by
  rw [S.xor_eq _ _ (rot_lt he) (rot_lt he), show bits .xor .u32 ((rot st.e 6 ^^^ rot st.e 11 : Nat) : Int) (rot st.e 25 : Nat) = (S1 st.e : Nat) from S.xor_eq _ _ (xor_lt (rot_lt he) (rot_lt he)) (rot_lt he), rch_eq _ _ _ he hf hg]
  unfold uV
  simp only [IntKind.wrap_u32']
  omega
theorem rv_eq (st : St) (ha : st.a < 4294967296) (hb : st.b < 4294967296) (hc : st.c < 4294967296) :
    (bits .xor .u32 (bits .xor .u32 (rot st.a 2 : Nat) (rot st.a 13 : Nat)) (rot st.a 22 : Nat) + bits .xor .u32 (bits .xor .u32 (bits .and .u32 (st.a : Int) st.b) (bits .and .u32 (st.a : Int) st.c)) (bits .and .u32 (st.b : Int) st.c)) % 4294967296 = (vV st : Nat) := by
  rw [S.xor_eq _ _ (rot_lt ha) (rot_lt ha), show bits .xor .u32 ((rot st.a 2 ^^^ rot st.a 13 : Nat) : Int) (rot st.a 22 : Nat) = (S0 st.a : Nat) from S.xor_eq _ _ (xor_lt (rot_lt ha) (rot_lt ha)) (rot_lt ha), rmaj_eq _ _ _ ha hb hc]
  unfold vV
  omega
theorem agg8 {a e a' e' : Int} {b c d f g h : Value} (h1 : a = a') (h2 : e = e') : Value.agg #[.int .u32 a, b, c, d, .int .u32 e, f, g, h] = .agg #[.int .u32 a', b, c, d, .int .u32 e', f, g, h] := by rw [h1, h2]
theorem vals_at (s : St) {k : Nat} (h : k < 8) : (vals s).toList[k]? = some (.int .u32 (s.list.getD k 0 : Nat)) := by
  have h8 : k < s.list.length := h
  show (s.list.map wordV)[k]? = _
  rw [List.getElem?_map, List.getElem?_eq_getElem h8, List.getD_eq_getElem?_getD, List.getElem?_eq_getElem h8]
  rfl
end S
set_option maxRecDepth 100000 in
set_option maxHeartbeats 4000000 in
theorem rblock_any (s : S.St) (hs : s.ok) (l : List UInt8) (hl : l.length = 64) (w : World) :
    Calls Tryd.prog 56 #[.agg (S.K.map S.wordV).toArray, .agg (S.vals s), .agg (l.map S.byteV).toArray] w fun e w' => e = .returned (.agg (S.vals (S.block s l))) ∧ Below w.heap.size w w' := by
  have HL := Lib.hid hl
  obtain ⟨V, HV⟩ : ∃ V, Hid (V = S.vals (S.block s l)) := ⟨_, Lib.hid rfl⟩
  rw [← HV.out]
  have HO := Lib.hid hs
  obtain ⟨KL, HKL⟩ : ∃ KL, Hid (KL = S.K.map S.wordV) := ⟨_, Lib.hid rfl⟩
  rw [← HKL.out]
  clear hl hs
  go_enter Tryd.func56, Tryd.ntmps56
  go_wp2_with fail
  go_loopw [8] (fun i wr => ∃ k : Nat, k ≤ 16 ∧ i = .int .i64 k ∧ S.RBlk w wr KL s l (S.fill l k)) (fun i _ => 16 - (intOf i).toNat)
  case atStart => exact ⟨0, Nat.zero_le _, rfl, ⟨((((S.Row.made _ _ _ rfl rfl).alloc _).alloc _).alloc _).alloc _, (((S.Row.made _ _ _ (by simp) rfl).alloc _).alloc _).alloc _, ((S.Row.made _ _ _ (by simp) rfl).alloc _).alloc _, (S.Row.made _ _ _ (by simp) rfl).alloc _, S.Row.made _ _ _ (by simp) rfl, ((((((Below.refl _ _).alloc (Nat.le_refl _) _).alloc (by simp) _).alloc (by simp; omega) _).alloc (by simp; omega) _).alloc (by simp; omega) _)⟩⟩
  case round =>
    obtain ⟨k, hk, rfl, hR⟩ := hrel
    have hlen := HL.out
    by_cases hlt : k < 16
    · obtain ⟨p0, hp0⟩ : ∃ p : Nat, p = 4 * k := ⟨_, rfl⟩
      obtain ⟨p1, hp1⟩ : ∃ p : Nat, p = 4 * k + 1 := ⟨_, rfl⟩
      obtain ⟨p2, hp2⟩ : ∃ p : Nat, p = 4 * k + 2 := ⟨_, rfl⟩
      obtain ⟨p3, hp3⟩ : ∃ p : Nat, p = 4 * k + 3 := ⟨_, rfl⟩
      have c0 := hR.rb.cell (S.byte_get l (j := p0) (by omega))
      have c1 := hR.rb.cell (S.byte_get l (j := p1) (by omega))
      have c2 := hR.rb.cell (S.byte_get l (j := p2) (by omega))
      have c3 := hR.rb.cell (S.byte_get l (j := p3) (by omega))
      have g0 : (p0 : Int) < 64 := by omega
      have g1 : (p1 : Int) < 64 := by omega
      have g2 : (p2 : Int) < 64 := by omega
      have g3 : (p3 : Int) < 64 := by omega
      have m0 : IntKind.i64.wrap (4 * (k : Int)) = (p0 : Int) := by rw [IntWalk.i64_in _ (by omega)]; omega
      have m1 : IntKind.i64.wrap ((p0 : Int) + 1) = (p1 : Int) := by rw [IntWalk.i64_in _ (by omega)]; omega
      have m2 : IntKind.i64.wrap ((p0 : Int) + 2) = (p2 : Int) := by rw [IntWalk.i64_in _ (by omega)]; omega
      have m3 : IntKind.i64.wrap ((p0 : Int) + 3) = (p3 : Int) := by rw [IntWalk.i64_in _ (by omega)]; omega
      have HS := Lib.hid (show ((S.fill l k).map S.wordV).set k (.int .u32 (S.wordOf (S.at_ l p0) (S.at_ l p1) (S.at_ l p2) (S.at_ l p3) : Nat)) = (S.fill l (k + 1)).map S.wordV by rw [hp0, hp1, hp2, hp3]; exact S.fill_word' l hlt)
      have b0 := S.at_lt l p0
      have b1 := S.at_lt l p1
      have b2 := S.at_lt l p2
      have b3 := S.at_lt l p3
      generalize S.at_ l p0 = x0 at c0 b0 HS
      generalize S.at_ l p1 = x1 at c1 b1 HS
      generalize S.at_ l p2 = x2 at c2 b2 HS
      generalize S.at_ l p3 = x3 at c3 b3 HS
      clear hp0 hp1 hp2 hp3 hlen
      have gk : (k : Int) < 64 := by omega
      have HWd := Lib.hid (S.word_eq x0 x1 x2 x3 b0 b1 b2 b3)
      have y0 : IntKind.u32.wrap (x0 : Int) = (x0 : Int) := by rw [IntKind.wrap_u32']; omega
      have y1 : IntKind.u32.wrap (x1 : Int) = (x1 : Int) := by rw [IntKind.wrap_u32']; omega
      have y2 : IntKind.u32.wrap (x2 : Int) = (x2 : Int) := by rw [IntKind.wrap_u32']; omega
      have y3 : IntKind.u32.wrap (x3 : Int) = (x3 : Int) := by rw [IntKind.wrap_u32']; omega
      have z0 : IntKind.u32.wrap ((x0 : Int) * 16777216) = (x0 : Int) * 16777216 := by rw [IntKind.wrap_u32']; omega
      have z1 : IntKind.u32.wrap ((x1 : Int) * 65536) = (x1 : Int) * 65536 := by rw [IntKind.wrap_u32']; omega
      have z2 : IntKind.u32.wrap ((x2 : Int) * 256) = (x2 : Int) * 256 := by rw [IntKind.wrap_u32']; omega
      go_wp2_with fail
      refine wp_region_still_tail 31 (by kernel_rfl) (by kernel_rfl) ?_
      simp only [List.take_succ_cons, List.take_zero, List.drop_succ_cons, List.drop_zero]
      repeat still_step
      refine wpStill_nil ?_
      rw [HWd.out]
      change wpList _ _ _ _ _ wr.drew
      have hR2 := hR.drew
      generalize wr.drew = wz at hR2 ⊢
      have hcell := hR2.rw_.cell (j := k) (S.fill_at l (k := k) (by omega))
      have hfr := hR2.rw_.frozen k
      clear c0 c1 c2 c3 m0 m1 m2 m3 y0 y1 y2 y3 z0 z1 z2 hR gk
      go_wp2_with fail
      go_roundw
      case rel => first | exact ⟨k + 1, by omega, by go_num, hR2.set k _ HS.out⟩ | ((repeat apply Exists.intro); exact ⟨⟨k + 1, by omega, by go_num, hR2.set k _ HS.out⟩, rfl⟩)
      case measure => simp [intOf]; omega
    · obtain rfl : k = 16 := by omega
      clear hlt hk
      go_wp2_with fail
      go_loopw [9] (fun i wr => ∃ k : Nat, 16 ≤ k ∧ k ≤ 64 ∧ i = .int .i64 k ∧ S.RBlk w wr KL s l (S.fill l k)) (fun i _ => 64 - (intOf i).toNat)
      case atStart => exact ⟨16, by omega, by omega, rfl, hR⟩
      case round =>
        clear hR hlen
        obtain ⟨k, hk16, hk, rfl, hR⟩ := hrel
        by_cases hlt : k < 64
        · obtain ⟨p2, h2⟩ : ∃ p : Nat, p = k - 2 := ⟨_, rfl⟩
          obtain ⟨p7, h7⟩ : ∃ p : Nat, p = k - 7 := ⟨_, rfl⟩
          obtain ⟨p15, h15⟩ : ∃ p : Nat, p = k - 15 := ⟨_, rfl⟩
          obtain ⟨p16, h16⟩ : ∃ p : Nat, p = k - 16 := ⟨_, rfl⟩
          obtain ⟨x2, X2⟩ : ∃ x, Hid (x = (S.ws l k).getD p2 0) := ⟨_, Lib.hid rfl⟩
          obtain ⟨x7, X7⟩ : ∃ x, Hid (x = (S.ws l k).getD p7 0) := ⟨_, Lib.hid rfl⟩
          obtain ⟨x15, X15⟩ : ∃ x, Hid (x = (S.ws l k).getD p15 0) := ⟨_, Lib.hid rfl⟩
          obtain ⟨x16, X16⟩ : ∃ x, Hid (x = (S.ws l k).getD p16 0) := ⟨_, Lib.hid rfl⟩
          have d0 := hR.rw_.cell (S.fill_val l (k := k) (j := p2) (by omega))
          have d1 := hR.rw_.cell (S.fill_val l (k := k) (j := p7) (by omega))
          have d2 := hR.rw_.cell (S.fill_val l (k := k) (j := p15) (by omega))
          have d3 := hR.rw_.cell (S.fill_val l (k := k) (j := p16) (by omega))
          rw [← X2.out] at d0
          rw [← X7.out] at d1
          rw [← X15.out] at d2
          rw [← X16.out] at d3
          have b2 : x2 < 4294967296 := by rw [X2.out]; exact S.ws_lt l k p2
          have b15 : x15 < 4294967296 := by rw [X15.out]; exact S.ws_lt l k p15
          have g2 : (p2 : Int) < 64 := by omega
          have g7 : (p7 : Int) < 64 := by omega
          have g15 : (p15 : Int) < 64 := by omega
          have g16 : (p16 : Int) < 64 := by omega
          have w2 : IntKind.i64.wrap ((k : Int) - 2) = (p2 : Int) := by rw [IntWalk.i64_in _ (by omega)]; omega
          have w7 : IntKind.i64.wrap ((k : Int) - 7) = (p7 : Int) := by rw [IntWalk.i64_in _ (by omega)]; omega
          have w15 : IntKind.i64.wrap ((k : Int) - 15) = (p15 : Int) := by rw [IntWalk.i64_in _ (by omega)]; omega
          have w16 : IntKind.i64.wrap ((k : Int) - 16) = (p16 : Int) := by rw [IntWalk.i64_in _ (by omega)]; omega
          have HX := Lib.hid (show S.next l (S.ws l k) k = (S.s1 x2 + x7 + S.s0 x15 + x16) % 4294967296 by unfold S.next; rw [if_neg (by omega), X2.out, X7.out, X15.out, X16.out, h2, h7, h15, h16])
          have HV2 := Lib.hid (show IntKind.u32.wrap (IntKind.u32.wrap (IntKind.u32.wrap ((S.s1 x2 : Nat) + (x7 : Int)) + (S.s0 x15 : Nat)) + (x16 : Int)) = ((S.next l (S.ws l k) k : Nat) : Int) by rw [HX.out]; simp only [IntKind.wrap_u32']; omega)
          have l7 : p7 < k := by omega
          have l16 : p16 < k := by omega
          clear h2 h7 h15 h16
          go_wp2_with fail
          go_quiet (fail)
          go_wp2_with fail
          have e1 := Lib.hid (S.xor_eq (S.rot x2 17) (S.rot x2 19) (S.rot_lt b2) (S.rot_lt b2))
          have e2 := Lib.hid (show bits .xor .u32 ((S.rot x2 17 ^^^ S.rot x2 19 : Nat) : Int) ((S.shr x2 10 : Nat) : Int) = (S.s1 x2 : Nat) from S.xor_eq (S.rot x2 17 ^^^ S.rot x2 19) (S.shr x2 10) (S.xor_lt (S.rot_lt b2) (S.rot_lt b2)) (S.shr_lt b2))
          have e3 := Lib.hid (S.xor_eq (S.rot x15 7) (S.rot x15 18) (S.rot_lt b15) (S.rot_lt b15))
          have e4 := Lib.hid (show bits .xor .u32 ((S.rot x15 7 ^^^ S.rot x15 18 : Nat) : Int) ((S.shr x15 3 : Nat) : Int) = (S.s0 x15 : Nat) from S.xor_eq (S.rot x15 7 ^^^ S.rot x15 18) (S.shr x15 3) (S.xor_lt (S.rot_lt b15) (S.rot_lt b15)) (S.shr_lt b15))
          have e5 := Lib.hid (show (x2 : Int) / 1024 = (S.shr x2 10 : Nat) by simp [S.shr])
          have e6 := Lib.hid (show (x15 : Int) / 8 = (S.shr x15 3 : Nat) by simp [S.shr])
          refine (rrot_any x2 17 b2 (by decide) _).mono ?_
          rintro e w' ⟨rfl, rfl⟩
          go_wp2_with fail
          refine (rrot_any x2 19 b2 (by decide) _).mono ?_
          rintro e w' ⟨rfl, rfl⟩
          go_wp2_with fail
          refine (rrot_any x15 7 b15 (by decide) _).mono ?_
          rintro e w' ⟨rfl, rfl⟩
          go_wp2_with fail
          refine (rrot_any x15 18 b15 (by decide) _).mono ?_
          rintro e w' ⟨rfl, rfl⟩
          go_wp2_with fail
          rw [e1.out, e5.out, e2.out, e3.out, e6.out, e4.out]
          have hRn := fun n => hR.drewN n
          generalize hwq : wr.drewN _ = wq
          have hRq : S.RBlk w wq KL s l (S.fill l k) := by rw [← hwq]; exact hRn _
          clear hwq hRn d0 d1 d2 d3 hR w2 w15
          have d1 := hRq.rw_.cell (S.fill_val l (k := k) (j := p7) l7)
          have d3 := hRq.rw_.cell (S.fill_val l (k := k) (j := p16) l16)
          rw [← X7.out] at d1
          rw [← X16.out] at d3
          have gk : (k : Int) < 64 := by omega
          refine wp_region_still_tail 15 (by kernel_rfl) (by kernel_rfl) ?_
          simp only [List.take_succ_cons, List.take_zero, List.drop_succ_cons, List.drop_zero]
          repeat still_step
          refine wpStill_nil ?_
          rw [HV2.out]
          change wpList _ _ _ _ _ wq.drew
          have hR2 := hRq.drew
          generalize wq.drew = wz at hR2 ⊢
          have hcell := hR2.rw_.cell (j := k) (S.fill_at l (k := k) (by omega))
          have hfr := hR2.rw_.frozen k
          have HS := Lib.hid (S.fill_next l (k := k) (by omega))
          clear d1 d3 w7 w16 hRq gk
          go_wp2_with fail
          go_roundw
          case rel => first | exact ⟨k + 1, by omega, by omega, by go_num, hR2.set k _ HS.out⟩ | ((repeat apply Exists.intro); exact ⟨⟨k + 1, by omega, by omega, by go_num, hR2.set k _ HS.out⟩, rfl⟩)
          case measure => simp [intOf]; omega
        · obtain rfl : k = 64 := by omega
          obtain ⟨W, HW⟩ : ∃ W, S.IsWs l W := ⟨_, ⟨rfl⟩⟩
          have hR2 : S.RBlk w wr KL s l W := by rw [HW.eq, ← S.fill_all]; exact hR
          have HWl := Lib.hid HW.len
          clear hR hlt hk hk16
          have c0 := hR2.rs.cell (j := 0) (v := .int .u32 s.a) rfl
          have c1 := hR2.rs.cell (j := 1) (v := .int .u32 s.b) rfl
          have c2 := hR2.rs.cell (j := 2) (v := .int .u32 s.c) rfl
          have c3 := hR2.rs.cell (j := 3) (v := .int .u32 s.d) rfl
          have c4 := hR2.rs.cell (j := 4) (v := .int .u32 s.e) rfl
          have c5 := hR2.rs.cell (j := 5) (v := .int .u32 s.f) rfl
          have c6 := hR2.rs.cell (j := 6) (v := .int .u32 s.g) rfl
          have c7 := hR2.rs.cell (j := 7) (v := .int .u32 s.h) rfl
          go_wp2_with fail
          have hbv : S.Row (wr.alloc (.cells (S.vals s) 56)) wr.heap.size 56 (S.vals s).toList := S.Row.made _ _ _ rfl rfl
          have hRv := hR2.alloc (.cells (S.vals s) 56)
          have hbv5 := hR2.lt
          obtain ⟨bv, HBV⟩ : ∃ bv, Hid (bv = wr.heap.size) := ⟨_, Lib.hid rfl⟩
          rw [← HBV.out] at hbv hbv5
          rw [← HBV.out]
          clear c0 c1 c2 c3 c4 c5 c6 c7 hR2
          go_loopw [15] (fun i wr => ∃ k : Nat, k ≤ 64 ∧ i = .int .i64 k ∧ S.RBlk w wr KL s l W ∧ S.Row wr bv 56 (S.vals (S.stAt s W k)).toList) (fun i _ => 64 - (intOf i).toNat)
          case atStart => exact ⟨0, Nat.zero_le _, rfl, hRv, hbv⟩
          case round =>
            clear hRv hbv
            obtain ⟨k, hk, rfl, hR, hbv⟩ := hrel
            by_cases hlt : k < 64
            · obtain ⟨x, X⟩ : ∃ x, Hid (x = W.getD k 0) := ⟨_, Lib.hid rfl⟩
              obtain ⟨c, C⟩ : ∃ c, Hid (c = S.K.getD k 0) := ⟨_, Lib.hid rfl⟩
              have cw := hR.rw_.cell (j := k) (v := .int .u32 (x : Nat)) (by rw [X.out]; simpa using S.ws_at HWl.out hlt)
              have ck := hR.rk.cell (j := k) (v := .int .u32 (c : Nat)) (by rw [HKL.out, C.out]; exact S.K_at hlt)
              have hok := S.stAt_ok HO.out HWl.out k hk
              have HN := Lib.hid (S.stAt_snoc s HWl.out hlt)
              rw [← X.out, ← C.out] at HN
              generalize S.stAt s W k = st at hbv hok HN
              have c0 := hbv.cell (j := 0) (v := .int .u32 st.a) rfl
              have c1 := hbv.cell (j := 1) (v := .int .u32 st.b) rfl
              have c2 := hbv.cell (j := 2) (v := .int .u32 st.c) rfl
              have c3 := hbv.cell (j := 3) (v := .int .u32 st.d) rfl
              have c4 := hbv.cell (j := 4) (v := .int .u32 st.e) rfl
              have c5 := hbv.cell (j := 5) (v := .int .u32 st.f) rfl
              have c6 := hbv.cell (j := 6) (v := .int .u32 st.g) rfl
              have c7 := hbv.cell (j := 7) (v := .int .u32 st.h) rfl
              obtain ⟨⟨ha, hb, hc, hd⟩, he, hf, hg, hh⟩ := hok
              have gk : (k : Int) < 64 := by omega
              have hsg : IntKind.u32.signed = false := rfl
              have hmx : IntKind.u32.max = 4294967295 := rfl
              have HR := Lib.hid hR
              have HBW := Lib.hid hbv
              clear hR hbv
              go_wp2_with fail
              go_quiet (fail)
              go_wp2_with fail
              have hRn := fun n => HR.out.drewN n
              have hBn : ∀ n, S.Row (wr.drewN n) bv 56 (S.vals st).toList := fun n => HBW.out
              generalize hwq : wr.drewN _ = wq
              have hRq : S.RBlk w wq KL s l W := by rw [← hwq]; exact hRn _
              have hBq : S.Row wq bv 56 (S.vals st).toList := by rw [← hwq]; exact hBn _
              clear hwq hRn hBn c0 c1 c2 c3 c4 c5 c6 c7 cw ck HR HBW
              have cw := hRq.rw_.cell (j := k) (v := .int .u32 (x : Nat)) (by rw [X.out]; simpa using S.ws_at HWl.out hlt)
              have ck := hRq.rk.cell (j := k) (v := .int .u32 (c : Nat)) (by rw [HKL.out, C.out]; exact S.K_at hlt)
              have c7 := hBq.cell (j := 7) (v := .int .u32 st.h) rfl
              refine wp_region_still_lit (by kernel_rfl) (by kernel_rfl) ?_
              repeat still_step
              still_call ((rrot_any st.e 6 he (by decide) _).mono fun _ _ h => ⟨h.1, h.2.symm⟩)
              repeat still_step
              still_call ((rrot_any st.e 11 he (by decide) _).mono fun _ _ h => ⟨h.1, h.2.symm⟩)
              repeat still_step
              still_call ((rrot_any st.e 25 he (by decide) _).mono fun _ _ h => ⟨h.1, h.2.symm⟩)
              repeat still_step
              refine wpStill_nil ?_
              have HU := Lib.hid (S.ru_eq st x c he hf hg)
              rw [HU.out]
              have hRw : S.RBlk w wq.drew KL s l W := hRq.drew
              have hBw : S.Row wq.drew bv 56 (S.vals st).toList := hBq
              change Exit.then _ _ _ _ wq.drew
              generalize wq.drew = wz at hRw hBw ⊢
              clear cw ck c7 hRq hBq
              obtain ⟨u, U⟩ : ∃ u, Hid (u = S.uV st ((c + x) % 4294967296)) := ⟨_, Lib.hid rfl⟩
              obtain ⟨v, HVv⟩ : ∃ v, Hid (v = S.vV st) := ⟨_, Lib.hid rfl⟩
              rw [← U.out]
              have HV2 := Lib.hid (S.rv_eq st ha hb hc)
              rw [← HVv.out] at HV2
              have HSt := Lib.hid (show S.stAt s W (k + 1) = ⟨(u + v) % 4294967296, st.a, st.b, st.c, (st.d + u) % 4294967296, st.e, st.f, st.g⟩ by rw [HN.out, U.out, HVv.out]; rfl)
              go_wp2_with fail
              refine (rrot_any st.a 2 ha (by decide) _).mono ?_
              rintro e w' ⟨rfl, rfl⟩
              go_wp2_with fail
              refine (rrot_any st.a 13 ha (by decide) _).mono ?_
              rintro e w' ⟨rfl, rfl⟩
              go_wp2_with fail
              refine (rrot_any st.a 22 ha (by decide) _).mono ?_
              rintro e w' ⟨rfl, rfl⟩
              have c3 := hBw.cell (j := 3) (v := .int .u32 st.d) rfl
              go_wp2_with (refine S.wpList_store_but rfl 56 (.tmp 14) (.tmp 181) rfl bv (S.vals (S.stAt s W (k + 1))).toList rfl (by rw [HSt.out]; exact S.agg8 (by have hv2 := HV2.out; (try dsimp only); omega) (by (try dsimp only); omega)) _ _ hBw (S.info_vals _) rfl (S.vals_one _) ?_; intro w5 hB5 hbut5)
              have hR5 := hRw.but hbut5 hbv5
              go_roundw
              case rel => first | exact ⟨k + 1, by omega, by go_num, hR5, hB5⟩ | ((repeat apply Exists.intro); exact ⟨⟨k + 1, by omega, by go_num, hR5, hB5⟩, rfl⟩)
              case measure => simp [intOf]; omega
            · obtain rfl : k = 64 := by omega
              have HA := Lib.hid (S.stAt_all s HW)
              generalize S.stAt s W 64 = st at hbv HA
              clear hlt hk
              go_wp2_with fail
              go_loopw [24] (fun i wr => ∃ k : Nat, k ≤ 8 ∧ i = .int .i64 k ∧ S.RBlk w wr KL s l W ∧ S.Row wr bv 56 ((S.mixed st s k).map S.wordV)) (fun i _ => 8 - (intOf i).toNat)
              case atStart => exact ⟨0, Nat.zero_le _, rfl, hR, hbv⟩
              case round =>
                clear hR hbv
                obtain ⟨k, hk, rfl, hR, hbv⟩ := hrel
                by_cases hlt : k < 8
                · have cy := hbv.cell (j := k) (S.mixed_at st s hlt)
                  have cx := hR.rs.cell (j := k) (S.vals_at s hlt)
                  have hfr := hbv.frozen k
                  have HM := Lib.hid (S.mixed_set st s hlt)
                  have HR := Lib.hid hR
                  have HB := Lib.hid hbv
                  generalize s.list.getD k 0 = x at cx HM
                  generalize st.list.getD k 0 = y at cy HM
                  clear hR hbv
                  have HX := Lib.hid (show IntKind.u32.wrap ((y : Int) + (x : Int)) = (((y + x) % 4294967296 : Nat) : Int) by simp only [IntKind.wrap_u32']; omega)
                  have g8 : (k : Int) < 8 := by omega
                  go_wp2_with fail
                  refine wp_region_still_tail 9 (by kernel_rfl) (by kernel_rfl) ?_
                  simp only [List.take_succ_cons, List.take_zero, List.drop_succ_cons, List.drop_zero]
                  repeat still_step
                  refine wpStill_nil ?_
                  rw [HX.out]
                  have hR2 : S.RBlk w wr.drew KL s l W := HR.out.drew
                  have hB2 : S.Row wr.drew bv 56 ((S.mixed st s k).map S.wordV) := HB.out
                  change wpList _ _ _ _ _ wr.drew
                  generalize wr.drew = wz at hR2 hB2 ⊢
                  clear cy cx hfr
                  have cy := hB2.cell (j := k) (S.mixed_at st s hlt)
                  have hfr := hB2.frozen k
                  go_wp2_with fail
                  go_roundw
                  case rel => first | exact ⟨k + 1, by omega, by go_num, hR2.but ((S.But.refl bv wz).setCell k none _) hbv5, HM.out ▸ hB2.set k _⟩ | ((repeat apply Exists.intro); exact ⟨⟨k + 1, by omega, by go_num, hR2.but ((S.But.refl bv wz).setCell k none _) hbv5, HM.out ▸ hB2.set k _⟩, rfl⟩)
                  case measure => simp [intOf]; omega
                · obtain rfl : k = 8 := by omega
                  have hr3' : S.Row wr bv 56 V.toList := by rw [HV.out, ← HA.out]; exact hbv
                  have hrr := hR.rr
                  have HB := Lib.hid hR.bel
                  have HVs := Lib.hid (show V.size = 8 by rw [HV.out]; rfl)
                  have HV1 := Lib.hid (show V.all (·.oneCell') = true by rw [HV.out]; exact S.vals_one _)
                  clear hR hbv hlt hk
                  go_wp2_with (first
                    | (refine wpList_load_row rfl 56 (.tmp 14) rfl bv rfl _ V (0, 0) _ hr3' Tryd.underlying56 rfl (by rw [HVs.out]; exact S.info_eight) ?_)
                    | (refine wpList_store_row rfl 56 (.tmp 6) (.tmp 195) rfl (w.heap.size + 1 + 1 + 1) V rfl rfl _ _ hrr (by rw [HVs.out]; exact S.info_eight) (by rw [HVs.out]; rfl) HV1.out ?_))
                  have hfin := setRow_heap wr (w.heap.size + 1 + 1 + 1) _ V _ _ hrr
                  exact bodyPost_ret (v := .agg V) (results_cell_row Tryd.results56 _ _ (w.heap.size + 1 + 1 + 1) _ _ _ _ rfl hfin Tryd.underlying56 rfl (by rw [HVs.out]; exact S.info_eight)) rfl ⟨rfl, below_setRow HB.out (by omega) _⟩
end Go.Proofs.YtgpgnfdbjljljaaDoor
