/- The contract of Join for every list, and of the reference's Join. -/
import Derived.Test.YtbjfpmklmhgbdaaDoorWordsJn
import Derived.Test.YtbjfpmklmhgbdaaDoorWordsRef
namespace Go.Proofs.YtbjfpmklmhgbdaaDoor
open Go.RowKit
set_option maxRecDepth 100000 in
set_option maxHeartbeats 1000000 in
theorem Join_any (A : Option Addr) (c m : Nat) (fs : List FV) (w : World) (hb : FieldsIn w w.heap.size A c fs) (hm : fs.length = m) (hE : EscIn w) (h70 : m ≤ 1000) :
    Calls Tryd.prog 25 #[.slice A m c] w (JoinPost fs w) := by
  cases A with
  | some ad => exact Join_some ad c m fs w hb hm hE h70
  | none =>
    have htl := tooLong_in none c m fs w hb hm
    obtain ⟨rfl, rfl⟩ := hb.nil_of
    obtain rfl : m = 0 := hm.symm
    clear hb hm hE h70
    obtain ⟨i0, hi, hz0, hz1, hz2⟩ := info_parts info_str
    go_enter Tryd.func25, Tryd.ntmps25
    go_wp2_with fail
    refine htl.mono ?_
    rintro e w1 ⟨rfl, hb1⟩
    clear htl
    rw [show W.longF [] = false from rfl]
    go_wp2_with (at_make; refine wpList_make_own _ rfl _ _ 59 rfl w.heap.size 9 i0 (.string ⟨#[]⟩) 1 Tryd.underlying59 hi hz0 hz1 .i64 .i64 _ 0 rfl rfl (by omega) (by rw [hz2]; omega) (by unfold maxLen; omega) hb1.size ?_; intro w2 hown2 hgrow2; have hb2 : Below w.heap.size w w2 := hb1.grown hgrow2 hb1.size (fun k hk => by cases hk))
    refine wp_loop_rounds 1 ?_
    rw [rounds_succ]
    have hjn := join_own (xs := []) (sep := [32]) hown2 (by simp) (by simp [Lib.join_nil])
    go_wp2_with fail
    refine hjn.mono ?_
    rintro e w6 ⟨rfl, hb6⟩
    rw [Lib.join_nil]
    go_wp2_with fail
    go_ret2
    exact join_good (fs := []) rfl rfl (by decide) (hb2.trans (hb6.mono hb2.size))
end Go.Proofs.YtbjfpmklmhgbdaaDoor
