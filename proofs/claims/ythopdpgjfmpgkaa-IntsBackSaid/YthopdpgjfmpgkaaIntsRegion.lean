/- A region that draws its order, of calls that make memory and of readings: the condition that is held may be made stronger on the way, by what a callee has left. -/
import Derived.Test.YthopdpgjfmpgkaaProg
import Derived.WalkKit
import Derived.Deep.RegionHeld3
namespace Go.Proofs.Ythopdpgjfmpgkaa
open Go.RowKit
theorem wpAnyH_more {P : Program} {ops : Array Oper} {Q : Exit → Act → World → Prop} {md : Region.Mode} {S S' : World → Prop} (imp : ∀ w, S' w → S w) :
    ∀ {fuel : Nat} {listed : Array Bool} {a : Act} {w : World}, wpAnyH P md ops Q S' fuel listed a w → wpAnyH P md ops Q S fuel listed a w
  | 0, _, _, _, h => h
  | _ + 1, _, _, _, h => ⟨h.1, fun i hi => wpOp_mono (fun _ _ h' => ⟨imp _ h'.1, wpAnyH_more imp h'.2⟩) (h.2 i hi)⟩
end Go.Proofs.Ythopdpgjfmpgkaa
