/- The walk of the law HmacKnown. -/
import Derived.Test.YtgpgnfdbjljljaaDoorHmShown
namespace Go.Proofs.YtgpgnfdbjljljaaDoor
open Go.RowKit
set_option maxHeartbeats 400000 in
theorem HmacKnown_walk (w : World) (hK : S.SLaid w) :
    Calls Tryd.prog 13 #[] w fun e w' => e = .returned (.bool true) ∧ Below w.heap.size w w' := by
  go_enter Tryd.func13, Tryd.ntmps13
  go_wp2_with fail
  refine (hshown_any _ hK).mono ?_
  rintro e w1 ⟨rfl, hb⟩
  go_wp2_with fail
  go_ret
  exact ⟨rfl, hb⟩
end Go.Proofs.YtgpgnfdbjljljaaDoor
