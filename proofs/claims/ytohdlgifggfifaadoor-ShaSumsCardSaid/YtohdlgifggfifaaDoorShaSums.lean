/- The walk of the law ShaSums. -/
import Derived.Test.YtohdlgifggfifaaDoorShaRSum
import Derived.Test.YtohdlgifggfifaaDoorShaOpen
namespace Go.Proofs.YtohdlgifggfifaaDoor
open Go.RowKit
set_option maxRecDepth 100000 in
set_option maxHeartbeats 2000000 in
theorem ShaSums_walk (A : Option Addr) (c : Nat) (b : List UInt8) (w : World) (hK : S.SLaid w) (hin : BytesIn w w.heap.size A c b) :
    Calls Tryd.prog 4 #[.slice A b.length c] w fun e w' => e = .returned (.bool true) ∧ Below w.heap.size w w' := by
  have h2 := hK.lt.1
  have HK := Lib.hid hK
  by_cases hl : 1000 < b.length
  · obtain ⟨N, HN⟩ : ∃ N, Hid (N = b.length) := ⟨_, Lib.hid rfl⟩
    rw [← HN.out] at hl ⊢
    clear hin hK
    have hN : (1000 : Int) < (N : Int) := by omega
    go_enter Tryd.func4, Tryd.ntmps4
    go_wp2_with fail
    refine (shown_any _ HK.out).mono ?_
    rintro e w3 ⟨rfl, hb3⟩
    go_wp2_with fail
    go_ret
    exact ⟨rfl, hb3⟩
  · have heq : ∀ W, (Op.equalIn 10000 32 (.agg (S.digV b).toArray) (.agg (S.digV b).toArray)).run Tryd.prog W = .ok true W := fun W => S.eq_d32 _ (S.digest_len _) W
    have HS := fun w hw hi => Sum_any A c b w hw hi (by omega)
    have HR := fun w hi => RSum_any A c b w hi (by omega)
    obtain ⟨D, HD⟩ : ∃ D, Hid (D = (S.digV b).toArray) := ⟨_, Lib.hid rfl⟩
    rw [← HD.out] at heq HS HR
    obtain ⟨N, HN⟩ : ∃ N, Hid (N = b.length) := ⟨_, Lib.hid rfl⟩
    rw [← HN.out] at hl HS HR ⊢
    have hN : ¬ (1000 : Int) < (N : Int) := by omega
    have hgd := S.guard_d32
    have HIN := Lib.hid hin
    replace HS := Lib.hid HS
    replace HR := Lib.hid HR
    clear hin hK hl
    go_enter Tryd.func4, Tryd.ntmps4
    go_wp2_with fail
    refine (HS.out _ HK.out HIN.out).mono ?_
    rintro e w1 ⟨rfl, hb1⟩
    have HB1 := Lib.hid hb1
    clear hb1
    go_wp2_with fail
    refine (HR.out _ ((HIN.out.below HB1.out).more HB1.out.size)).mono ?_
    rintro e w2 ⟨rfl, hb2⟩
    have HB2 := Lib.hid (HB1.out.trans (hb2.mono HB1.out.size))
    clear hb2
    go_wp2_with fail
    refine (shown_any _ (HK.out.below HB2.out (by omega))).mono ?_
    rintro e w3 ⟨rfl, hb3⟩
    have HB3 := Lib.hid (HB2.out.trans (hb3.mono HB2.out.size))
    clear hb3
    go_wp2_with fail
    go_ret
    exact ⟨rfl, HB3.out⟩
end Go.Proofs.YtohdlgifggfifaaDoor
