/- The contract of package sha's Hex. -/
import Derived.Test.YtgpgnfdbjljljaaDoorShaMem
import Derived.Deep.RegionHeld3
import Derived.Deep.AppendLies
namespace Go.Proofs.YtgpgnfdbjljljaaDoor
open Go.RowKit
namespace S
/-- The digits, as bytes. -/
def digitsL : List UInt8 := [48, 49, 50, 51, 52, 53, 54, 55, 56, 57, 97, 98, 99, 100, 101, 102]
def hexd (n : Nat) : UInt8 := digitsL.getD n 0
def hexOf (l : List UInt8) : List UInt8 := l.flatMap fun c => [hexd (c.toNat / 16), hexd (c.toNat % 16)]
theorem hexOf_snoc (l : List UInt8) {k : Nat} (h : k < l.length) : hexOf (l.take (k + 1)) = hexOf (l.take k) ++ [hexd (at_ l k / 16), hexd (at_ l k % 16)] := by
  unfold hexOf at_
  rw [List.take_succ_eq_append_getElem h, List.flatMap_append, List.getD_eq_getElem?_getD, List.getElem?_eq_getElem h]
  simp
theorem hexOf_len (l : List UInt8) : (hexOf l).length = 2 * l.length := by
  unfold hexOf
  induction l with
  | nil => rfl
  | cons c l ih => simp [ih]; omega
theorem run_digit (w : World) (k : IntKind) (n : Nat) (z : Int) (hz : z = (n : Int)) (h : n < 16) : (Instr.index 9 (.string ⟨#[48, 49, 50, 51, 52, 53, 54, 55, 56, 57, 97, 98, 99, 100, 101, 102]⟩) (.int k z)).run Tryd.prog w = .ok (.int .u8 ((hexd n).toNat : Int)) w := by
  subst hz
  rw [run_index_string w 9 _ k (n : Int) Tryd.underlying9]
  obtain rfl | rfl | rfl | rfl | rfl | rfl | rfl | rfl | rfl | rfl | rfl | rfl | rfl | rfl | rfl | rfl : n = 0 ∨ n = 1 ∨ n = 2 ∨ n = 3 ∨ n = 4 ∨ n = 5 ∨ n = 6 ∨ n = 7 ∨ n = 8 ∨ n = 9 ∨ n = 10 ∨ n = 11 ∨ n = 12 ∨ n = 13 ∨ n = 14 ∨ n = 15 := by omega
  all_goals rfl
theorem u8_low (c : Nat) (h : c < 256) : bits .and .u8 (c : Int) 15 = ((c % 16 : Nat) : Int) := by
  rw [show (15 : Int) = ((15 : Nat) : Int) from rfl, u8_and_nat c 15 h (by decide), show (15 : Nat) = 2 ^ 4 - 1 from rfl, Nat.and_two_pow_sub_one_eq_mod]
theorem info_d32 : (Tryd.prog.info? 22).map (·.size) = some 32 := by kernel_rfl
theorem info_byte : (Tryd.prog.info? 5).map (·.size) = some 1 := by kernel_rfl
theorem plain_byte : Tryd.prog.plainKey 5 = true := by kernel_rfl
end S
set_option maxRecDepth 100000 in
set_option maxHeartbeats 1000000 in
theorem Hex_any (l : List UInt8) (hl : l.length = 32) (w : World) :
    Calls Tryd.prog 17 #[.agg (l.map S.byteV).toArray] w fun e w' => e = .returned (.string ⟨(S.hexOf l).toArray⟩) ∧ Below w.heap.size w w' := by
  have HL := Lib.hid hl
  have HI := Lib.hid (show (Tryd.prog.info? 22).map (·.size) = some (l.map S.byteV).toArray.size by rw [S.info_d32]; simp [hl])
  clear hl
  go_enter Tryd.func17, Tryd.ntmps17
  go_wp2_with (refine wpList_load_row rfl 22 (.tmp 1) rfl w.heap.size rfl _ (l.map S.byteV).toArray (0, 0) _ (S.Row.made _ _ _ rfl rfl) Tryd.underlying22 rfl HI.out ?_)
  have hb0 : Below w.heap.size w (w.alloc (.cells (l.map S.byteV).toArray 22)) := (Below.refl _ _).alloc (Nat.le_refl _) _
  have hn0 : (w.alloc (.cells (l.map S.byteV).toArray 22)).ownsRow w.heap.size 5 1 (.slice none 0 0) ([] : List UInt8).length (([] : List UInt8).map S.byteV) := World.ownsRow_nil _ _ _ _
  go_loopw [3, 7] (fun v i wr => ∃ k : Nat, k ≤ 32 ∧ i = .int .i64 k ∧ wr.ownsRow w.heap.size 5 1 v (S.hexOf (l.take k)).length ((S.hexOf (l.take k)).map S.byteV) ∧ Below w.heap.size w wr) (fun _ i _ => 32 - (intOf i).toNat)
  case atStart => exact ⟨0, Nat.zero_le _, rfl, by simpa [S.hexOf] using hn0, hb0⟩
  case round =>
    obtain ⟨k, hk, rfl, hown, hbel⟩ := hrel
    clear hb0 hn0
    by_cases hlt : k < 32
    · have hkl : k < l.length := by rw [HL.out]; exact hlt
      have hidx : (Instr.index 22 (.agg (l.map S.byteV).toArray) (.int .i64 (k : Int))).run Tryd.prog wr = .ok (.int .u8 (S.at_ l k : Nat)) wr := S.run_index_agg wr _ 5 32 k _ _ _ Tryd.underlying22 S.info_byte S.plain_byte rfl hlt (by rw [List.getElem?_toArray]; exact S.byte_get l hkl)
      have HX := Lib.hid (S.hexOf_snoc l hkl)
      have hc := S.at_lt l k
      have hlen : (S.hexOf (l.take k)).length ≤ 1000 := by rw [S.hexOf_len, List.length_take]; omega
      generalize S.hexOf (l.take k) = xs at hown HX hlen
      generalize S.at_ l k = c at hidx HX hc
      clear hkl
      have i1 : ∀ W, (Instr.index 9 (.string { data := #[48, 49, 50, 51, 52, 53, 54, 55, 56, 57, 97, 98, 99, 100, 101, 102] }) (.int .u8 ((c : Int) / 16))).run Tryd.prog W = .ok (.int .u8 ((S.hexd (c / 16)).toNat : Int)) W := fun W => S.run_digit W _ (c / 16) _ (by omega) (by omega)
      have i2 : ∀ W, (Instr.index 9 (.string { data := #[48, 49, 50, 51, 52, 53, 54, 55, 56, 57, 97, 98, 99, 100, 101, 102] }) (.int .u8 ((c : Int) % 16))).run Tryd.prog W = .ok (.int .u8 ((S.hexd (c % 16)).toNat : Int)) W := fun W => S.run_digit W _ (c % 16) _ (by omega) (by omega)
      have hand := S.u8_low c hc
      obtain ⟨i0, hi, hz0, hz1, hz2⟩ := info_parts info_u8
      have hbs := hbel.size
      go_wp2_with fail
      go_region_held3 (fun _ => True) (exact trivial)
        ((refine step_append_lies _ (by rfl) _ _ _ (by rfl) w.heap.size 5 i0 _ 1 1 Tryd.underlying33 hi hz0 hz1 hz2 rfl (by omega) _ xs.length (xs.map S.byteV) (by rfl) ((hown.alloc _).drew)
              ⟨wr.heap.size, 0, none⟩ 2 2 [.int .u8 ((S.hexd (c / 16)).toNat : Int), .int .u8 ((S.hexd (c % 16)).toNat : Int)] (by rfl) (by rfl) (World.news_of_block (cs := #[.int .u8 ((S.hexd (c / 16)).toNat : Int), .int .u8 ((S.hexd (c % 16)).toNat : Int)]) (t := 5) (fr := (0, 0)) (heap_alloc_new wr _)) (by simp [Value.oneCell'])
              (by omega) (by unfold maxLen; omega) (by omega) (by simp; omega) (wr.heap.size + 1) (by simp) ?_; intro gg cap w2 hown2 hgrow hat hlt2))
      all_goals
        go_wp2_with fail
        have hown3 : w2.ownsRow w.heap.size 5 1 (.slice (some ⟨gg, 0, none⟩) (xs.length + 2) cap) (S.hexOf (l.take (k + 1))).length ((S.hexOf (l.take (k + 1))).map S.byteV) := by
          rw [HX.out, List.length_append, List.map_append]; exact hown2
        go_roundw
        case rel => exact ⟨k + 1, by omega, by go_num, hown3, ((hbel.alloc hbs _).drew).grown hgrow (by simp; omega) (fun j hj => (hown.lt j hj).1)⟩
        case measure => simp [intOf]; omega
    · obtain rfl : k = 32 := by omega
      have hE : l.take 32 = l := List.take_of_length_le (by rw [HL.out]; exact Nat.le_refl _)
      rw [hE] at hown
      clear hE
      have hcv := conv_own hown
      have HB := Lib.hid hbel
      clear hbel hown
      go_wp2_with fail
      go_ret
      exact ⟨rfl, HB.out⟩
end Go.Proofs.YtgpgnfdbjljljaaDoor
