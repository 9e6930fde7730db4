/- The walk of WordsJoins. -/
import Derived.Test.YtbjfpmklmhgbdaaDoorWordsRJn
import Derived.Test.YtbjfpmklmhgbdaaDoorWordsLaws2
namespace Go.Proofs.YtbjfpmklmhgbdaaDoor
open Go.RowKit Go.Shelf
set_option maxRecDepth 100000 in
set_option maxHeartbeats 4000000 in
theorem WordsJoins_walk (A : Option Addr) (c m : Nat) (fs : List FV) (w : World) (hW : WLaid w) (hb : FieldsIn w w.heap.size A c fs) (hm : fs.length = m) :
    Calls Tryd.prog 6 #[.slice A m c] w fun e w' => e = .returned (.bool true) ∧ Below w.heap.size w w' := by
  have HW := Lib.hid hW
  have HB := Lib.hid hb
  have Hm := Lib.hid hm
  have hfar := far_any A c m fs w hb hm
  clear hW hb hm
  go_enter Tryd.func6, Tryd.ntmps6
  go_wp2_with fail
  refine hfar.mono ?_
  rintro e w' ⟨r, rfl, hr, rfl⟩
  clear hfar
  cases r with
  | true =>
    have hsh := shown_true w HW.out
    go_wp2_with fail
    refine hsh.mono ?_
    rintro e w1 ⟨rfl, hb1⟩
    go_wp2_with fail
    go_ret
    exact ⟨rfl, hb1⟩
  | false =>
    have h70 : m ≤ 100 := by have := (hr rfl).1; rw [Hm.out] at this; omega
    have hj := Join_any A c m fs w HB.out Hm.out HW.out.esc h70
    clear hr
    go_wp2_with fail
    refine hj.mono ?_
    rintro e w1 ⟨rfl, hb1⟩
    have hj2 := RJoin_any A c m fs w1 ((HB.out.below hb1).more hb1.size) Hm.out
    clear hj
    obtain ⟨L, hL⟩ : ∃ L, W.joinV fs = L := ⟨_, rfl⟩
    obtain ⟨E, hE⟩ : ∃ E, W.joinE fs = E := ⟨_, rfl⟩
    unfold JoinPost at hj2
    rw [hL, hE] at hj2 ⊢
    clear hL hE
    go_wp2_with fail
    refine hj2.mono ?_
    rintro e w2 ⟨rfl, hb2⟩
    have hb12 := hb1.trans (hb2.mono hb1.size)
    have HW2 := Lib.hid (HW.out.below hb12)
    clear hj2
    have hsh := shown_true w2 HW2.out
    go_wp2_with fail
    refine hsh.mono ?_
    rintro e w4 ⟨rfl, hb4⟩
    have hb14 := hb12.trans (hb4.mono hb12.size)
    go_wp2_with fail
    go_ret
    exact ⟨rfl, hb14⟩
end Go.Proofs.YtbjfpmklmhgbdaaDoor
