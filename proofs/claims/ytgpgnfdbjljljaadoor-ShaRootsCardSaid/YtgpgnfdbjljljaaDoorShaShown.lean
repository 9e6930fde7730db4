/- The contract of the laws' own function shown. -/
import Derived.Test.YtgpgnfdbjljljaaDoorShaMeth
import Derived.Lib.SlBytesConst
namespace Go.Proofs.YtgpgnfdbjljljaaDoor
open Go.RowKit
namespace S
/-- Bytes of a digest, whose digits are these. -/
structure IsHex (d h : List UInt8) : Prop where
  len : d.length = 32
  hex : hexOf d = h
def abcHex : List UInt8 := [98, 97, 55, 56, 49, 54, 98, 102, 56, 102, 48, 49, 99, 102, 101, 97, 52, 49, 52, 49, 52, 48, 100, 101, 53, 100, 97, 101, 50, 50, 50, 51, 98, 48, 48, 51, 54, 49, 97, 51, 57, 54, 49, 55, 55, 97, 57, 99, 98, 52, 49, 48, 102, 102, 54, 49, 102, 50, 48, 48, 49, 53, 97, 100]
def nilHex : List UInt8 := [101, 51, 98, 48, 99, 52, 52, 50, 57, 56, 102, 99, 49, 99, 49, 52, 57, 97, 102, 98, 102, 52, 99, 56, 57, 57, 54, 102, 98, 57, 50, 52, 50, 55, 97, 101, 52, 49, 101, 52, 54, 52, 57, 98, 57, 51, 52, 99, 97, 52, 57, 53, 57, 57, 49, 98, 55, 56, 53, 50, 98, 56, 53, 53]
theorem isHex_abc : IsHex (digest [97, 98, 99]) abcHex := ⟨digest_len _, by rw [digest_abc]; decide +kernel⟩
theorem isHex_nil : IsHex (digest []) nilHex := ⟨digest_len _, by rw [digest_nil]; decide +kernel⟩
theorem pad_len_of (n k : Nat) (h : (pad n).length = k) (w : World) (hn : n ≤ 1152921504606846976) :
    Calls Tryd.prog 46 #[.int .i64 n] w fun e w' => ∃ A c, e = .returned (.tuple #[.slice A k c, .int .i64 0]) ∧ Below w.heap.size w w' := by
  refine (Pad_yes n hn w).mono ?_
  rintro e w' ⟨v, rfl, hown, hb⟩
  obtain ⟨A, c, rfl, _⟩ := own_slice hown
  exact ⟨A, c, by rw [h], hb⟩
end S
theorem BytesIn.made_tag {w : World} {l : List UInt8} {cs : Array Value} (fr : Nat × Nat) (h : cs = (l.map S.byteV).toArray) (hl : l.length ≤ 1000) : BytesIn (w.alloc (.cells cs 5 fr)) (w.alloc (.cells cs 5 fr)).heap.size (some ⟨w.heap.size, 0, none⟩) l.length l := by
  subst h
  refine ⟨Nat.le_refl _, by unfold maxLen; omega, fun e => (by cases e), fun ad e => ?_⟩
  injection e with e
  subst e
  intro j u hu
  refine ⟨by simp, ?_⟩
  have hadd : (⟨w.heap.size, 0, none⟩ : Addr).add j = ⟨w.heap.size, j, none⟩ := by unfold Addr.add; split <;> simp_all
  rw [hadd, cell_of_row _ w.heap.size j _ 5 fr (heap_alloc_new w _)]
  rw [List.getElem?_toArray, List.getElem?_map, hu]; rfl
theorem sum_abc (A : Option Addr) (c : Nat) (w : World) (hK : S.SLaid w) (hin : BytesIn w w.heap.size A c [97, 98, 99]) :
    Calls Tryd.prog 45 #[.slice A 3 c] w fun e w' => ∃ d, e = .returned (.agg (d.map S.byteV).toArray) ∧ S.IsHex d S.abcHex ∧ Below w.heap.size w w' :=
  (Sum_any A c [97, 98, 99] w hK hin (by simp)).mono fun _ _ ⟨h, hb⟩ => ⟨_, h, S.isHex_abc, hb⟩
theorem sum_nil (w : World) (hK : S.SLaid w) :
    Calls Tryd.prog 45 #[.slice none 0 0] w fun e w' => ∃ d, e = .returned (.agg (d.map S.byteV).toArray) ∧ S.IsHex d S.nilHex ∧ Below w.heap.size w w' :=
  (Sum_any none 0 [] w hK (BytesIn.nil_ _ _) (by simp)).mono fun _ _ ⟨h, hb⟩ => ⟨_, h, S.isHex_nil, hb⟩
theorem constants_first (w : World) (hK : S.SLaid w) :
    Calls Tryd.prog 27 #[] w fun e w' => ∃ k, e = .returned (.agg k) ∧ (∀ W, (Instr.index 50 (.agg k) (.int .i64 0)).run Tryd.prog W = .ok (.int .u32 1116352408) W) ∧ Below w.heap.size w w' :=
  (Constants_any w hK).mono fun _ _ ⟨h, hb⟩ => ⟨_, h, fun W => S.run_index_agg W _ 49 64 0 _ _ _ Tryd.underlying50 S.info_word S.plain_word rfl (by decide) rfl, hb⟩
theorem start_first (w : World) (hK : S.SLaid w) :
    Calls Tryd.prog 29 #[] w fun e w' => ∃ k, e = .returned (.agg k) ∧ (∀ W, (Instr.index 56 (.agg k) (.int .i64 0)).run Tryd.prog W = .ok (.int .u32 1779033703) W) ∧ Below w.heap.size w w' :=
  (Start_any w hK).mono fun _ _ ⟨h, hb⟩ => ⟨_, h, fun W => S.run_index_agg W _ 49 8 0 _ _ _ Tryd.underlying56 S.info_word S.plain_word rfl (by decide) rfl, hb⟩
theorem hex_of (d h : List UInt8) (hd : S.IsHex d h) (w : World) :
    Calls Tryd.prog 17 #[.agg (d.map S.byteV).toArray] w fun e w' => e = .returned (.string ⟨h.toArray⟩) ∧ Below w.heap.size w w' := by
  have := Hex_any d hd.len w
  rwa [hd.hex] at this
set_option maxRecDepth 100000 in
set_option maxHeartbeats 2000000 in
theorem shown_any (w : World) (hK : S.SLaid w) :
    Calls Tryd.prog 14 #[] w fun e w' => e = .returned (.bool true) ∧ Below w.heap.size w w' := by
  have h2 := hK.lt.1
  have HK := Lib.hid hK
  clear hK
  go_enter Tryd.func14, Tryd.ntmps14
  go_wp2_with fail
  refine (S.pad_len_of 0 64 (by decide) _ (by omega)).mono ?_
  rintro e w1 ⟨A1, c1, rfl, hb1⟩
  go_wp2_with fail
  refine (S.pad_len_of 55 9 (by decide) _ (by omega)).mono ?_
  rintro e w2 ⟨A2, c2, rfl, hb2⟩
  have HB2 := Lib.hid (hb1.trans (hb2.mono hb1.size))
  clear hb1 hb2
  go_wp2_with fail
  refine (S.pad_len_of 56 72 (by decide) _ (by omega)).mono ?_
  rintro e w3 ⟨A3, c3, rfl, hb3⟩
  have HB3 := Lib.hid (HB2.out.trans (hb3.mono HB2.out.size))
  clear hb3
  have kc := fun (w : World) (C : Array Value) (n c : Nat) => Lib.run_convert_bytes_const (P := Tryd.prog) w 33 5 C n c Tryd.underlying33 Tryd.underlying5
  go_wp2_with fail
  have hba : Below w.heap.size w (w3.alloc (.cells #[.int .u8 97, .int .u8 98, .int .u8 99] 5 (3, 4))) := HB3.out.alloc HB3.out.size _
  have HBA := Lib.hid hba
  clear hba
  refine (sum_abc _ 3 _ (HK.out.below HBA.out (by omega)) (BytesIn.made_tag (w := w3) (l := [97, 98, 99]) (cs := #[.int .u8 97, .int .u8 98, .int .u8 99]) (3, 4) rfl (by simp))).mono ?_
  rintro e w4 ⟨d4, rfl, hd4, hb4⟩
  have HB4 := Lib.hid (HBA.out.trans (hb4.mono HBA.out.size))
  clear hb4 kc
  go_wp2_with fail
  refine (hex_of d4 _ hd4 _).mono ?_
  rintro e w5 ⟨rfl, hb5⟩
  have HB5 := Lib.hid (HB4.out.trans (hb5.mono HB4.out.size))
  clear hb5 hd4
  unfold S.abcHex
  go_wp2_with fail
  refine (sum_nil _ (HK.out.below HB5.out (by omega))).mono ?_
  rintro e w6 ⟨d6, rfl, hd6, hb6⟩
  have HB6 := Lib.hid (HB5.out.trans (hb6.mono HB5.out.size))
  clear hb6
  go_wp2_with fail
  refine (hex_of d6 _ hd6 _).mono ?_
  rintro e w7 ⟨rfl, hb7⟩
  have HB7 := Lib.hid (HB6.out.trans (hb7.mono HB6.out.size))
  clear hb7 hd6
  unfold S.nilHex
  go_wp2_with fail
  refine (constants_first _ (HK.out.below HB7.out (by omega))).mono ?_
  rintro e w8 ⟨k8, rfl, hk8, hb8⟩
  have HB8 := Lib.hid (HB7.out.trans (hb8.mono HB7.out.size))
  clear hb8
  go_wp2_with fail
  refine (start_first _ (HK.out.below HB8.out (by omega))).mono ?_
  rintro e w9 ⟨k9, rfl, hk9, hb9⟩
  have HB9 := Lib.hid (HB8.out.trans (hb9.mono HB8.out.size))
  clear hb9 hk8
  go_wp2_with fail
  go_ret
  exact ⟨rfl, HB9.out⟩
end Go.Proofs.YtgpgnfdbjljljaaDoor
