/- The walks of TimesSums and TimesDeadlines. -/
import Derived.Test.YtnehllkklmdpfaaDoorTmAwake
namespace Go.Proofs.YtnehllkklmdpfaaDoor
open Go.RowKit
set_option linter.unusedSimpArgs false
set_option maxRecDepth 100000
set_option maxHeartbeats 2000000 in
theorem TimesSums_walk (t d : Int) (ht : T.R64 t) (hd : T.R64 d) (w : World) (hT : Tab w) :
    Calls Tryd.prog 3 #[.int .i64 t, .int .i64 d] w fun e w' => e = .returned (.bool true) ∧ Below w.heap.size w w' := by
  have HT := Lib.hid hT
  have A1 := Lib.hid (fun w => Add_any t d ht hd w)
  have R1 := Lib.hid (fun w => RAdd_any t d ht hd w)
  have A2 := Lib.hid (fun w => Passed_any t d ht hd w)
  have R2 := Lib.hid (fun w => RPassed_any t d w)
  have A3 := Lib.hid (fun w => Left_any t d ht hd w)
  have R3 := Lib.hid (fun w => RLeft_any t d ht hd w)
  have A4 := Lib.hid (fun w => Advance_any t d w)
  have R4 := Lib.hid (fun w => RAdvance_any t d w)
  unfold T.pr T.prB at *
  clear hT ht hd
  generalize T.addV t d = v1 at *
  generalize T.badE t d = v2 at *
  generalize T.passB t d = v3 at *
  generalize T.leftV t d = v4 at *
  generalize T.advV t d = v5 at *
  generalize T.advE t d = v6 at *
  go_enter Tryd.func3, Tryd.ntmps3
  go_wp2_with fail
  refine (A1.out _).mono ?_
  rintro e w1 ⟨rfl, hb1⟩
  go_wp2_with fail
  refine (R1.out _).mono ?_
  rintro e w' ⟨rfl, rfl⟩
  go_wp2_with fail
  refine (A2.out _).mono ?_
  rintro e w2 ⟨rfl, hb⟩
  have hb2 := bt hb1 hb1.size hb
  clear hb hb1
  go_wp2_with fail
  refine (R2.out _).mono ?_
  rintro e w' ⟨rfl, rfl⟩
  go_wp2_with fail
  refine (A3.out _).mono ?_
  rintro e w3 ⟨rfl, hb⟩
  have hb3 := bt hb2 hb2.size hb
  clear hb hb2
  go_wp2_with fail
  refine (R3.out _).mono ?_
  rintro e w' ⟨rfl, rfl⟩
  go_wp2_with fail
  refine (A4.out _).mono ?_
  rintro e w4 ⟨rfl, hb⟩
  have hb4 := bt hb3 hb3.size hb
  clear hb hb3
  go_wp2_with fail
  refine (R4.out _).mono ?_
  rintro e w' ⟨rfl, rfl⟩
  have HW := Lib.hid (awake_any w4 (HT.out.on hb4))
  go_wp2_with fail
  refine HW.out.mono ?_
  rintro e w5 ⟨rfl, hb⟩
  have hb5 := bt hb4 hb4.size hb
  go_wp2_with fail
  go_ret
  exact ⟨rfl, hb5⟩
end Go.Proofs.YtnehllkklmdpfaaDoor
