/- The walks of WordsNames and WordsQuotes. -/
import Derived.Test.YtbjfpmklmhgbdaaDoorWordsShown
namespace Go.Proofs.YtbjfpmklmhgbdaaDoor
open Go.RowKit

set_option maxRecDepth 100000 in
set_option maxHeartbeats 4000000 in
theorem WordsNames_walk (s : ByteArray) (lo hi : Int) (w : World) (hW : WLaid w) (hs : s.size ≤ maxLen) (hl1 : -9223372036854775808 ≤ lo) (hl2 : lo ≤ 9223372036854775807) (hh1 : -9223372036854775808 ≤ hi) (hh2 : hi ≤ 9223372036854775807) :
    Calls Tryd.prog 3 #[.string s, .int .i64 lo, .int .i64 hi] w fun e w' => e = .returned (.bool true) ∧ Below w.heap.size w w' := by
  have HW := Lib.hid hW
  clear hW
  by_cases hbig : 1000 < s.size
  · have hsh := shown_true w HW.out
    go_enter Tryd.func3, Tryd.ntmps3
    go_wp2_with fail
    refine hsh.mono ?_
    rintro e w1 ⟨rfl, hb1⟩
    go_wp2_with fail
    go_ret
    exact ⟨rfl, hb1⟩
  · obtain ⟨tp, p, he⟩ := HW.out.err
    go_enter Tryd.func3, Tryd.ntmps3
    go_wp2_with fail
    refine (Int_any s lo hi w (by omega) tp p he).mono ?_
    rintro e w1 ⟨rfl, hb1⟩
    have HW1 := Lib.hid (HW.out.below hb1)
    clear he
    go_wp2_with fail
    refine (RInt_any s lo hi w1 (by omega)).mono ?_
    rintro e w2 ⟨rfl, rfl⟩
    go_wp2_with fail
    refine (Name_any s w1 hs).mono ?_
    rintro e w2 ⟨rfl, rfl⟩
    go_wp2_with fail
    refine (RName_any s w1 hs).mono ?_
    rintro e w2 ⟨rfl, rfl⟩
    go_wp2_with fail
    refine (Digits_any lo w1 hl1 hl2 HW1.out.pow).mono ?_
    rintro e w2 ⟨rfl, hb2⟩
    have hb12 := hb1.trans (hb2.mono hb1.size)
    have HW2 := Lib.hid (HW.out.below hb12)
    go_wp2_with fail
    refine (RDigits_all lo w2 hl1 hl2).mono ?_
    rintro e w3 ⟨rfl, hb3⟩
    have hb13 := hb12.trans (hb3.mono hb12.size)
    have HW3 := Lib.hid (HW.out.below hb13)
    go_wp2_with fail
    refine (Digits_any hi w3 hh1 hh2 HW3.out.pow).mono ?_
    rintro e w4 ⟨rfl, hb4⟩
    have hb14 := hb13.trans (hb4.mono hb13.size)
    have HW4 := Lib.hid (HW.out.below hb14)
    go_wp2_with fail
    refine (RDigits_all hi w4 hh1 hh2).mono ?_
    rintro e w5 ⟨rfl, hb5⟩
    have hb15 := hb14.trans (hb5.mono hb14.size)
    have HW5 := Lib.hid (HW.out.below hb15)
    have hsh := shown_true w5 HW5.out
    go_wp2_with fail
    refine hsh.mono ?_
    rintro e w6 ⟨rfl, hb6⟩
    have hb16 := hb15.trans (hb6.mono hb15.size)
    go_wp2_with fail
    go_ret
    exact ⟨rfl, hb16⟩

set_option maxRecDepth 100000 in
set_option maxHeartbeats 4000000 in
theorem WordsQuotes_walk (s : ByteArray) (w : World) (hW : WLaid w) :
    Calls Tryd.prog 4 #[.string s] w fun e w' => e = .returned (.bool true) ∧ Below w.heap.size w w' := by
  have HW := Lib.hid hW
  clear hW
  by_cases hbig : 1000 < s.size
  · have hsh := shown_true w HW.out
    go_enter Tryd.func4, Tryd.ntmps4
    go_wp2_with fail
    refine hsh.mono ?_
    rintro e w1 ⟨rfl, hb1⟩
    go_wp2_with fail
    go_ret
    exact ⟨rfl, hb1⟩
  · have hE := HW.out.esc
    have hs2 : s.size ≤ 1000 := by omega
    clear hbig
    have Hs := Lib.hid hs2
    go_enter Tryd.func4, Tryd.ntmps4
    go_wp2_with fail
    refine (Unquote_any s w hE (by have := Hs.out; omega)).mono ?_
    rintro e w1 ⟨b, x, rfl, hu1, hb1⟩
    have HW1 := Lib.hid (HW.out.below hb1)
    clear hE
    go_wp2_with fail
    refine (RUnquote_any s w1 (by have := Hs.out; omega)).mono ?_
    rintro e w2 ⟨b', x', rfl, hu2, hb2⟩
    obtain ⟨rfl, rfl⟩ := W.uq_unique hu1 hu2
    have hb12 := hb1.trans (hb2.mono hb1.size)
    have HW2 := Lib.hid (HW.out.below hb12)
    have hE2 := HW2.out.esc
    clear hu1 hu2
    go_wp2_with fail
    refine (Quote_any s w2 hE2 (by have := Hs.out; omega)).mono ?_
    rintro e w3 ⟨rfl, hb3⟩
    have hb13 := hb12.trans (hb3.mono hb12.size)
    clear hE2
    go_wp2_with fail
    refine (RQuote_any s w3 (by have := Hs.out; omega)).mono ?_
    rintro e w4 ⟨rfl, hb4⟩
    have hb14 := hb13.trans (hb4.mono hb13.size)
    have HW4 := Lib.hid (HW.out.below hb14)
    have hsh := shown_true w4 HW4.out
    go_wp2_with fail
    refine hsh.mono ?_
    rintro e w5 ⟨rfl, hb5⟩
    have hb15 := hb14.trans (hb5.mono hb14.size)
    go_wp2_with fail
    go_ret
    exact ⟨rfl, hb15⟩
end Go.Proofs.YtbjfpmklmhgbdaaDoor
