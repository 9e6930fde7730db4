/- The walk of the law HmacTags. -/
import Derived.Test.YtgpgnfdbjljljaaDoorHmShown
import Derived.Test.YtgpgnfdbjljljaaDoorHmRTag
namespace Go.Proofs.YtgpgnfdbjljljaaDoor
open Go.RowKit
theorem M.eq_b64 (l : List UInt8) (hl : l.length = 64) (w : World) : (Op.equalIn 10000 60 (.agg (l.map S.byteV).toArray) (.agg (l.map S.byteV).toArray)).run Tryd.prog w = .ok true w :=
  S.run_eql_same w _ 5 64 .u8 .u8 _ Tryd.underlying60 Tryd.underlying5 S.plain_byte S.cells_byte (fun i hi => ⟨_, by rw [List.getElem?_toArray]; exact S.byte_get l (by omega)⟩)
theorem M.guard_b64 : Tryd.prog.eqGuardType Tryd.prog.depth 60 = false := by kernel_rfl
set_option maxRecDepth 100000 in
set_option maxHeartbeats 2000000 in
theorem HmacTags_walk (A A2 : Option Addr) (c c2 : Nat) (key b : List UInt8) (w : World) (hK : S.SLaid w) (hin : BytesIn w w.heap.size A c key) (hin2 : BytesIn w w.heap.size A2 c2 b) :
    Calls Tryd.prog 6 #[.slice A key.length c, .slice A2 b.length c2] w fun e w' => e = .returned (.bool true) ∧ Below w.heap.size w w' := by
  have h2 := hK.lt.1
  have HK := Lib.hid hK
  by_cases hs : key.length ≤ 300 ∧ b.length ≤ 300
  · have heq : ∀ W, (Op.equalIn 10000 60 (.agg ((M.block key).map S.byteV).toArray) (.agg ((M.block key).map S.byteV).toArray)).run Tryd.prog W = .ok true W := fun W => M.eq_b64 _ (M.block_len _) W
    have heq2 : ∀ W, (Op.equalIn 10000 22 (.agg ((M.tag key b).map S.byteV).toArray) (.agg ((M.tag key b).map S.byteV).toArray)).run Tryd.prog W = .ok true W := fun W => S.eq_d32 _ (M.tag_len _ _) W
    have HB1 := Lib.hid (fun w hw hi => KBlock_any A c key w hw hi (by omega))
    have HB2 := Lib.hid (fun w hi => RKBlock_any A c key w hi (by omega))
    have HT1 := Lib.hid (fun w hw hi hi2 => HTag_any A A2 c c2 key b w hw hi hi2 (by omega) (by omega))
    have HT2 := Lib.hid (fun w hi hi2 => RKTag_any A A2 c c2 key b w hi hi2 (by omega) (by omega))
    generalize ((M.block key).map S.byteV).toArray = V at heq HB1 HB2
    generalize ((M.tag key b).map S.byteV).toArray = D at heq2 HT1 HT2
    have hg1 := M.guard_b64
    have hg2 := S.guard_d32
    obtain ⟨N1, HN1⟩ : ∃ N, Hid (N = key.length) := ⟨_, Lib.hid rfl⟩
    obtain ⟨N2, HN2⟩ : ∃ N, Hid (N = b.length) := ⟨_, Lib.hid rfl⟩
    rw [← HN1.out] at hs HB1 HB2 HT1 HT2 ⊢
    rw [← HN2.out] at hs HT1 HT2 ⊢
    have hn1 : ¬ (300 : Int) < (N1 : Int) := by omega
    have hn2 : ¬ (300 : Int) < (N2 : Int) := by omega
    have HI := Lib.hid hin
    have HI2 := Lib.hid hin2
    clear hin hin2 hK hs
    go_enter Tryd.func6, Tryd.ntmps6
    go_wp2_with fail
    refine (HB1.out _ HK.out HI.out).mono ?_
    rintro e w1 ⟨rfl, hb1⟩
    have HW1 := Lib.hid hb1
    clear hb1
    go_wp2_with fail
    refine (HB2.out _ ((HI.out.below HW1.out).more HW1.out.size)).mono ?_
    rintro e w2 ⟨rfl, hb2⟩
    have HW2 := Lib.hid (HW1.out.trans (hb2.mono HW1.out.size))
    clear hb2
    go_wp2_with fail
    refine (HT1.out _ (HK.out.below HW2.out (by omega)) ((HI.out.below HW2.out).more HW2.out.size) ((HI2.out.below HW2.out).more HW2.out.size)).mono ?_
    rintro e w3 ⟨rfl, hb3⟩
    have HW3 := Lib.hid (HW2.out.trans (hb3.mono HW2.out.size))
    clear hb3
    go_wp2_with fail
    refine (HT2.out _ ((HI.out.below HW3.out).more HW3.out.size) ((HI2.out.below HW3.out).more HW3.out.size)).mono ?_
    rintro e w4 ⟨rfl, hb4⟩
    have HW4 := Lib.hid (HW3.out.trans (hb4.mono HW3.out.size))
    clear hb4
    go_wp2_with fail
    refine (hshown_any _ (HK.out.below HW4.out (by omega))).mono ?_
    rintro e w5 ⟨rfl, hb5⟩
    have HW5 := Lib.hid (HW4.out.trans (hb5.mono HW4.out.size))
    clear hb5
    go_wp2_with fail
    go_ret
    exact ⟨rfl, HW5.out⟩
  · have hcap := Nat.le_trans hin.le hin.cap
    have hcap2 := Nat.le_trans hin2.le hin2.cap
    unfold maxLen at hcap hcap2
    generalize key.length = N1 at hs hcap ⊢
    generalize b.length = N2 at hs hcap2 ⊢
    clear hin hin2 hK
    rcases (show 300 < N1 ∨ (N1 ≤ 300 ∧ 300 < N2) by omega) with h | ⟨h, h'⟩
    all_goals
      go_enter Tryd.func6, Tryd.ntmps6
      go_wp2_with fail
      refine (hshown_any _ HK.out).mono ?_
      rintro e w3 ⟨rfl, hb3⟩
      go_wp2_with fail
      go_ret
      exact ⟨rfl, hb3⟩
end Go.Proofs.YtgpgnfdbjljljaaDoor
