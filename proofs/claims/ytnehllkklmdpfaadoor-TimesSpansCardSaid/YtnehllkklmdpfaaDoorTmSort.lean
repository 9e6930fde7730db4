/- slices.Collect, slices.SortFunc with joined's closure, and slices.SortedFunc, of a slice of spans. -/
import Derived.Test.YtnehllkklmdpfaaDoorTmColl
import Derived.Test.YtnehllkklmdpfaaDoorSort
import Derived.Test.YtnehllkklmdpfaaDoorShelf
import Derived.Shelf.SlicesG.Cmp
import Derived.Lib.OwnBridge
import Derived.Lib.AppendIntMem
namespace Go.Proofs.YtnehllkklmdpfaaDoor
open Go.RowKit Go.Shelf
open T (SV)
set_option linter.unusedSimpArgs false
set_option maxRecDepth 100000
theorem Collect_any (A : Option Addr) (c m : Nat) (l : List SV) (c0 : Nat) (w : World) (hc : w.cell? ⟨c0, 0, none⟩ = some (.slice A m c)) (hm : l.length = m) (hl : SpIn w w.heap.size A c l) (hn : m ≤ 1000) :
    Calls Tryd.prog 59 #[.func (.func 61) #[] #[.pointer (some ⟨c0, 0, none⟩)]] w (OwnPost l w) := by
  have HC := Lib.hid (AppendSeq_any A c m l c0 w hc hm hl hn)
  clear hc hm hl
  go_enter Tryd.func59, Tryd.ntmps59
  go_wp2_with fail
  refine HC.out.mono ?_
  rintro e w1 ⟨v, rfl, hown, hb⟩
  have HO := Lib.hid hown
  clear hown
  go_wp2_with fail
  go_ret
  exact own_post HO.out hb
/-- A span's two cells. -/
def encP (x : SV) : List Value := [.int .i64 x.1, .int .i64 x.2]
theorem closure_any (x y : SV) (W : World) : Calls Tryd.prog 52 #[.agg #[.int .i64 x.1, .int .i64 x.2], .agg #[.int .i64 y.1, .int .i64 y.2]] W fun e w' => e = .returned (.int .i64 (Lib.compareInt x.1 y.1)) ∧ ∃ q os', w' = Sort.grow (W.drewN q) os' := by
  have hcon := fun W' => Tryd.cmp_Compare_int x.1 y.1 W'
  generalize Lib.compareInt x.1 y.1 = r at hcon ⊢
  go_enter Tryd.func52, Tryd.ntmps52
  go_wp2_with fail
  refine (hcon _).mono ?_
  rintro e w' ⟨rfl, rfl⟩
  go_wp2_with fail
  go_ret
  exact ⟨rfl, 0, _, by rw [Sort.alloc_eq_grow, Sort.alloc_eq_grow, Sort.grow_grow]; rfl⟩
theorem ltFrom (x y : SV) : ltOf (fun x y : SV => Lib.compareInt x.1 y.1) x y = decide (x.1 < y.1) := by
  unfold ltOf Lib.compareInt
  by_cases h1 : x.1 < y.1
  · simp [h1]
  · by_cases h2 : y.1 < x.1 <;> simp [h1, h2]
theorem swoFrom : Sort.SWO (ltOf fun x y : SV => Lib.compareInt x.1 y.1) where
  irrefl x := by rw [ltFrom]; simp
  trans x y z h1 h2 := by rw [ltFrom] at *; simp at *; omega
  ntrans x y z h1 h2 := by rw [ltFrom] at *; simp at *; omega
theorem SortFunc_some (g cap : Nat) (d : Array SV) (w : World) (hH : Sort.HoldsK encP 2 w g 0 d) (hg : g < w.heap.size) (hsz : d.size < 4611686018427387904) :
    Calls Tryd.prog 60 #[.slice (some ⟨g, 0, none⟩) d.size cap, .func (.func 52) #[] #[]] w fun e w' => e = .returned (.tuple #[]) ∧ ∃ d' n os, Sort.PermIn 0 d.size d d' ∧ Sort.SortedIn (ltOf fun x y : SV => Lib.compareInt x.1 y.1) 0 d.size d' ∧ w' = sortWorldK encP 2 w g 0 n d' os := by
  have eg : ∀ args w, (callFunc 52 args).run Tryd.prog w = .ok (.enter 52 args) w := enters_of Tryd.func52 (by kernel_rfl) rfl
  exact AnyQ.slices_SortFunc Tryd.sortSp 2 Tryd.isAgg32 Tryd.sizeOf32 encP (fun _ => rfl) (fun x v hv => by simp [encP] at hv; rcases hv with rfl | rfl <;> rfl) (fun x y => Lib.compareInt x.1 y.1) swoFrom 52 #[] g 0 cap d w eg (fun _ _ _ _ x y => closure_any x y _) hH hg hsz
end Go.Proofs.YtnehllkklmdpfaaDoor
