/- The walk of IntsPuts. -/
import Derived.Test.YthopdpgjfmpgkaaIntsGet
import Derived.Test.YthopdpgjfmpgkaaIntsRPut
import Derived.Test.YthopdpgjfmpgkaaIntsAwake
namespace Go.Proofs.Ythopdpgjfmpgkaa
open Go.RowKit
theorem conv_slice {w : World} {B : Nat} {A : Option Addr} {n c : Nat} {l : List UInt8} (hn : n = l.length) (h : BytesIn w B A c l) : (convert 22 9 (.slice A n c)).run Try.prog w = .ok (.string ⟨l.toArray⟩) w := by
  subst hn; exact conv_in h
set_option maxRecDepth 100000 in
set_option maxHeartbeats 1000000 in
theorem IntsPuts_walk (A : Option Addr) (c : Nat) (l : List UInt8) (N : Nat) (b : Int) (w : World) (hb : BytesIn w w.heap.size A c l) (hN : N < 18446744073709551616) :
    Calls Try.prog 3 #[.slice A l.length c, .int .u64 N, .int .i64 b] w fun e w' => e = .returned (.bool true) ∧ Below w.heap.size w w' := by
  have hlc := hb.le
  have hcm := hb.cap
  unfold maxLen at hcm
  by_cases hbig : 100 < l.length
  · have hbig' : (100 : Int) < l.length := by omega
    go_enter Try.func3, Try.ntmps3
    go_wp2_with fail
    refine (awake_any _).mono ?_
    rintro e w' ⟨rfl, hb⟩
    go_wp2_with fail
    go_ret
    exact ⟨rfl, hb⟩
  · have hbig' : ¬ (100 : Int) < l.length := by omega
    go_enter Try.func3, Try.ntmps3
    go_wp2_with fail
    refine (Put_any A c l N b _ hb (by omega)).mono ?_
    rintro e w1 ⟨v1, rfl, hown1, hb1⟩
    have hi1 := (hb.below hb1).more hb1.size
    go_wp2_with fail
    refine (RPut_any A c l N b _ hi1 (by omega) hN).mono ?_
    rintro e w2 ⟨v2, rfl, hown2, hb2⟩
    have hi2 := (hi1.below hb2).more hb2.size
    have hown1b := own_below hown1 hb2
    go_wp2_with fail
    refine (Get_any A c l b _ hi2).mono ?_
    rintro e w3 ⟨A3, n3, c3, rfl, hn3, hin3, hb3⟩
    have hi3 := (hi2.below hb3).more hb3.size
    have hown1c := own_below hown1b hb3
    have hown2c := own_below hown2 hb3
    have HN3 := Lib.hid hn3
    clear hn3
    go_wp2_with fail
    refine (RGet_any A c l b _ hi3).mono ?_
    rintro e w4 ⟨A4, n4, c4, rfl, hn4, hin4, hb4⟩
    have hk1 := conv_own (own_below hown1c hb4)
    have hk2 := conv_own (own_below hown2c hb4)
    have hk3 := conv_slice HN3.out ((hin3.more hb3.size).below hb4)
    have hk4 := conv_slice hn4 hin4
    have hb14 := hb1.trans ((hb2.trans ((hb3.trans (hb4.mono hb3.size)).mono hb2.size)).mono hb1.size)
    have HB := Lib.hid hb14
    clear hb14 hb1 hb2 hb3 hb4 hn4 hown1 hown2 hown1b hown1c hown2c hin3 hin4 hi1 hi2 hi3
    go_wp2_with fail
    refine (awake_any _).mono ?_
    rintro e w5 ⟨rfl, hb5⟩
    go_wp2_with fail
    go_ret
    exact ⟨rfl, HB.out.trans (hb5.mono HB.out.size)⟩
end Go.Proofs.Ythopdpgjfmpgkaa
