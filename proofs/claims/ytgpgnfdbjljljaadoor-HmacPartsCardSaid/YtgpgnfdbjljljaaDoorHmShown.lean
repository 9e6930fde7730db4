/- The contract of the function shown of the laws of layer 4. -/
import Derived.Test.YtgpgnfdbjljljaaDoorHmVer
import Derived.Test.YtgpgnfdbjljljaaDoorHmRHex
import Derived.Lib.SlBytesConst
namespace Go.Proofs.YtgpgnfdbjljljaaDoor
open Go.RowKit
namespace M
def k1 : List UInt8 := List.replicate 20 11
def b1 : List UInt8 := [72, 105, 32, 84, 104, 101, 114, 101]
def k2 : List UInt8 := [74, 101, 102, 101]
def b2 : List UInt8 := [119, 104, 97, 116, 32, 100, 111, 32, 121, 97, 32, 119, 97, 110, 116, 32, 102, 111, 114, 32, 110, 111, 116, 104, 105, 110, 103, 63]
def hex1 : List UInt8 := [98, 48, 51, 52, 52, 99, 54, 49, 100, 56, 100, 98, 51, 56, 53, 51, 53, 99, 97, 56, 97, 102, 99, 101, 97, 102, 48, 98, 102, 49, 50, 98, 56, 56, 49, 100, 99, 50, 48, 48, 99, 57, 56, 51, 51, 100, 97, 55, 50, 54, 101, 57, 51, 55, 54, 99, 50, 101, 51, 50, 99, 102, 102, 55]
def hex2 : List UInt8 := [53, 98, 100, 99, 99, 49, 52, 54, 98, 102, 54, 48, 55, 53, 52, 101, 54, 97, 48, 52, 50, 52, 50, 54, 48, 56, 57, 53, 55, 53, 99, 55, 53, 97, 48, 48, 51, 102, 48, 56, 57, 100, 50, 55, 51, 57, 56, 51, 57, 100, 101, 99, 53, 56, 98, 57, 54, 52, 101, 99, 51, 56, 52, 51]
theorem isHex1 : S.IsHex (tag k1 b1) hex1 := ⟨tag_len _ _, by decide +kernel⟩
theorem isHex2 : S.IsHex (tag k2 b2) hex2 := ⟨tag_len _ _, by decide +kernel⟩
end M
theorem S.wpList_load_guard {P : Program} {ops : Array Oper} {rest : List Oper} {o : Oper} {a : Act} {w : World} {Q : Exit → Act → World → Prop} (hw : Region.wanted o (yielded ops a.tmps) = true) (ty : TypeId) (x : Operand) (ho : o.op = .load ty x)
    (g : Nat) (hx : a.eval x = .pointer (some ⟨g, 0, none⟩)) (t : TypeId) (cs : Array Value) (fr : Nat × Nat) (d : TypeDesc) (hg : w.heap[g]? = some (.cells cs t fr))
    (hu : P.underlying ty = some d) (hd : (match d with | .struct _ | .array _ _ => true | _ => false) = true) (hi : (P.info? ty).map (·.size) = some cs.size)
    (h : wpList P ops Q rest (a.put o.dst (.agg cs)) w) : wpList P ops Q (o :: rest) a w := by
  unfold wpList
  rw [if_pos hw]
  exact .inl (wp_load_row ty x ho g hx t cs fr d hg hu hd hi h)
theorem tag_one (A A2 : Option Addr) (c c2 : Nat) (w : World) (hK : S.SLaid w) (hin : BytesIn w w.heap.size A c M.k1) (hin2 : BytesIn w w.heap.size A2 c2 M.b1) :
    Calls Tryd.prog 34 #[.slice A 20 c, .slice A2 8 c2] w fun e w' => ∃ d, e = .returned (.agg (d.map S.byteV).toArray) ∧ S.IsHex d M.hex1 ∧ Below w.heap.size w w' :=
  (HTag_any A A2 c c2 M.k1 M.b1 w hK hin hin2 (by decide) (by decide)).mono fun _ _ ⟨h, hb⟩ => ⟨_, h, M.isHex1, hb⟩
theorem tag_two (A A2 : Option Addr) (c c2 : Nat) (w : World) (hK : S.SLaid w) (hin : BytesIn w w.heap.size A c M.k2) (hin2 : BytesIn w w.heap.size A2 c2 M.b2) :
    Calls Tryd.prog 34 #[.slice A 4 c, .slice A2 28 c2] w fun e w' => ∃ d, e = .returned (.agg (d.map S.byteV).toArray) ∧ S.IsHex d M.hex2 ∧ Below w.heap.size w w' :=
  (HTag_any A A2 c c2 M.k2 M.b2 w hK hin hin2 (by decide) (by decide)).mono fun _ _ ⟨h, hb⟩ => ⟨_, h, M.isHex2, hb⟩
theorem equal_one (A A2 : Option Addr) (c c2 : Nat) (w : World) (hin : BytesIn w w.heap.size A c [97, 98, 99]) (hin2 : BytesIn w w.heap.size A2 c2 [97, 98, 100]) :
    Calls Tryd.prog 36 #[.slice A 3 c, .slice A2 3 c2] w fun e w' => e = .returned (.tuple #[.bool false, .int .i64 3]) ∧ Below w.heap.size w w' :=
  (Equal_any A A2 c c2 [97, 98, 99] [97, 98, 100] w hin hin2 (by decide) (by decide))
theorem equal_two (A A2 : Option Addr) (c c2 : Nat) (w : World) (hin : BytesIn w w.heap.size A c [97, 98, 99]) (hin2 : BytesIn w w.heap.size A2 c2 [97, 98]) :
    Calls Tryd.prog 36 #[.slice A 3 c, .slice A2 2 c2] w fun e w' => e = .returned (.tuple #[.bool false, .int .i64 3]) ∧ Below w.heap.size w w' :=
  (Equal_any A A2 c c2 [97, 98, 99] [97, 98] w hin hin2 (by decide) (by decide))
theorem rhex_of (d h : List UInt8) (hd : S.IsHex d h) (w : World) :
    Calls Tryd.prog 18 #[.agg (d.map S.byteV).toArray] w fun e w' => e = .returned (.string ⟨h.toArray⟩) ∧ Below w.heap.size w w' := by
  have := RHex_any d hd.len w
  rwa [hd.hex] at this
set_option maxRecDepth 100000 in
set_option maxHeartbeats 2000000 in
theorem hshown_any (w : World) (hK : S.SLaid w) :
    Calls Tryd.prog 31 #[] w fun e w' => e = .returned (.bool true) ∧ Below w.heap.size w w' := by
  have h2 := hK.lt.1
  have HK := Lib.hid hK
  clear hK
  go_enter Tryd.func31, Tryd.ntmps31
  go_wp2_with fail
  go_loopw [1, 2] (fun v i wr => ∃ k : Nat, k ≤ 20 ∧ i = .int .i64 k ∧ wr.ownsRow w.heap.size 5 1 v (List.replicate k (11 : UInt8)).length ((List.replicate k (11 : UInt8)).map S.byteV) ∧ Below w.heap.size w wr) (fun _ i _ => 20 - (intOf i).toNat)
  case atStart => exact ⟨0, Nat.zero_le _, rfl, World.ownsRow_nil _ _ _ _, Below.refl _ _⟩
  case round =>
    obtain ⟨k, hk, rfl, hown, hbel⟩ := hrel
    by_cases hlt : k < 20
    · have hlen : (List.replicate k (11 : UInt8)).length ≤ 1000000 := by simp; omega
      have hsn := (List.replicate_succ' (n := k) (a := (11 : UInt8))).symm
      obtain ⟨xs, hxs⟩ : ∃ xs, List.replicate k (11 : UInt8) = xs := ⟨_, rfl⟩
      rw [hxs] at hown hlen hsn
      have HS := Lib.hid hsn
      clear hsn hxs
      go_wp2_with (at_builtin; refine push_byte w wr 11 rfl (.tmp 13) (.tmp 14) rfl w.heap.size _ xs rfl rfl hown (Nat.le_refl _) hbel (by omega) (by omega) hlen ?_; intro v2 w2 hown2 hb2)
      have hown3 : w2.ownsRow w.heap.size 5 1 v2 (List.replicate (k + 1) (11 : UInt8)).length ((List.replicate (k + 1) (11 : UInt8)).map S.byteV) := by rw [← HS.out]; exact hown2
      clear hown2 hown hbel
      go_roundw
      case rel => exact ⟨k + 1, by omega, by go_num, hown3, hb2⟩
      case measure => simp [intOf]; omega
    · obtain rfl : k = 20 := by omega
      have hown2 : wr.ownsRow w.heap.size 5 1 _ 20 (M.k1.map S.byteV) := hown
      obtain ⟨A, c, rfl, _⟩ := S.own_slice hown2
      have hin := BytesIn.of_own hown2
      clear hown hown2 hlt hk
      have kc := fun (w : World) (C : Array Value) (n c : Nat) => Lib.run_convert_bytes_const (P := Tryd.prog) w 33 5 C n c Tryd.underlying33 Tryd.underlying5
      have kd : ∀ (w : World) (o : Obj) (C : Array Value) (n c : Nat), (convert 33 33 (.slice (some ⟨w.heap.size + 1, 0, none⟩) n c)).run Tryd.prog ((w.alloc o).alloc (.cells C 5)) = .ok (.slice (some ⟨w.heap.size + 1, 0, none⟩) n c) ((w.alloc o).alloc (.cells C 5 (C.size, C.size + 1))) := fun w o C n c => by
        have := kc (w.alloc o) C n c
        simpa using this
      go_wp2_with fail
      have HBA := Lib.hid (hbel.alloc hbel.size (.cells #[.int .u8 72, .int .u8 105, .int .u8 32, .int .u8 84, .int .u8 104, .int .u8 101, .int .u8 114, .int .u8 101] 5 (8, 9)))
      have hbA : Below wr.heap.size wr (wr.alloc (.cells #[.int .u8 72, .int .u8 105, .int .u8 32, .int .u8 84, .int .u8 104, .int .u8 101, .int .u8 114, .int .u8 101] 5 (8, 9))) := (Below.refl _ _).alloc (Nat.le_refl _) _
      refine (tag_one _ _ _ _ _ (HK.out.below HBA.out (by omega)) ((hin.below hbA).more hbA.size) (BytesIn.made_tag (w := wr) (l := M.b1) (cs := #[.int .u8 72, .int .u8 105, .int .u8 32, .int .u8 84, .int .u8 104, .int .u8 101, .int .u8 114, .int .u8 101]) (8, 9) rfl (by decide))).mono ?_
      rintro e w1 ⟨d1, rfl, hd1, hb1⟩
      have hb01 := HBA.out.trans (hb1.mono HBA.out.size)
      obtain ⟨D1, HD1⟩ : ∃ D1, Hid (D1 = d1.map S.byteV) := ⟨_, Lib.hid rfl⟩
      have HD1i := Lib.hid (show (Tryd.prog.info? 22).map (·.size) = some D1.toArray.size by rw [HD1.out, S.info_d32]; simp [hd1.len])
      have HD1o := Lib.hid (show D1.toArray.all (·.oneCell') = true by rw [HD1.out]; exact S.bvals_one _)
      have HD1l := Lib.hid (show D1.length = 32 by rw [HD1.out]; simp [hd1.len])
      have HX1 := Lib.hid (fun w => rhex_of d1 _ hd1 w)
      rw [← HD1.out] at HX1
      rw [← HD1.out]
      clear hb1 hbel hbA hin HBA
      go_wp2_with (refine S.wpList_store_but rfl 22 (.tmp 3) (.tmp 19) rfl w1.heap.size D1 rfl rfl _ _ (S.Row.made (l := List.replicate 32 (S.byteV 0)) _ _ _ rfl rfl) HD1i.out (by rw [HD1l.out]; rfl) HD1o.out ?_; intro w2 hr2 hbut2; have hb02 := (hb01.alloc hb01.size (.cells (Array.replicate 32 (S.byteV 0)) 22)).trans (hbut2.below (C := w.heap.size) hb01.size (by have := hb01.size; simp; omega)); clear hbut2 hb01)
      have HBA := Lib.hid (hb02.alloc hb02.size (.cells #[.int .u8 74, .int .u8 101, .int .u8 102, .int .u8 101] 5 (4, 5)))
      have HBB := Lib.hid (HBA.out.alloc HBA.out.size (.cells #[.int .u8 119, .int .u8 104, .int .u8 97, .int .u8 116, .int .u8 32, .int .u8 100, .int .u8 111, .int .u8 32, .int .u8 121, .int .u8 97, .int .u8 32, .int .u8 119, .int .u8 97, .int .u8 110, .int .u8 116, .int .u8 32, .int .u8 102, .int .u8 111, .int .u8 114, .int .u8 32, .int .u8 110, .int .u8 111, .int .u8 116, .int .u8 104, .int .u8 105, .int .u8 110, .int .u8 103, .int .u8 63] 5 (28, 29)))
      have hr3 := (hr2.alloc (.cells #[.int .u8 74, .int .u8 101, .int .u8 102, .int .u8 101] 5 (4, 5))).alloc (.cells #[.int .u8 119, .int .u8 104, .int .u8 97, .int .u8 116, .int .u8 32, .int .u8 100, .int .u8 111, .int .u8 32, .int .u8 121, .int .u8 97, .int .u8 32, .int .u8 119, .int .u8 97, .int .u8 110, .int .u8 116, .int .u8 32, .int .u8 102, .int .u8 111, .int .u8 114, .int .u8 32, .int .u8 110, .int .u8 111, .int .u8 116, .int .u8 104, .int .u8 105, .int .u8 110, .int .u8 103, .int .u8 63] 5 (28, 29))
      have hlt3 := hr2.lt
      have hin1 := BytesIn.made_tag (w := w2) (l := M.k2) (cs := #[.int .u8 74, .int .u8 101, .int .u8 102, .int .u8 101]) (4, 5) rfl (by decide)
      have hbB : Below (w2.alloc (.cells #[.int .u8 74, .int .u8 101, .int .u8 102, .int .u8 101] 5 (4, 5))).heap.size (w2.alloc (.cells #[.int .u8 74, .int .u8 101, .int .u8 102, .int .u8 101] 5 (4, 5))) ((w2.alloc (.cells #[.int .u8 74, .int .u8 101, .int .u8 102, .int .u8 101] 5 (4, 5))).alloc (.cells #[.int .u8 119, .int .u8 104, .int .u8 97, .int .u8 116, .int .u8 32, .int .u8 100, .int .u8 111, .int .u8 32, .int .u8 121, .int .u8 97, .int .u8 32, .int .u8 119, .int .u8 97, .int .u8 110, .int .u8 116, .int .u8 32, .int .u8 102, .int .u8 111, .int .u8 114, .int .u8 32, .int .u8 110, .int .u8 111, .int .u8 116, .int .u8 104, .int .u8 105, .int .u8 110, .int .u8 103, .int .u8 63] 5 (28, 29))) := (Below.refl _ _).alloc (Nat.le_refl _) _
      have hinB := BytesIn.made_tag (w := w2.alloc (.cells #[.int .u8 74, .int .u8 101, .int .u8 102, .int .u8 101] 5 (4, 5))) (l := M.b2) (cs := #[.int .u8 119, .int .u8 104, .int .u8 97, .int .u8 116, .int .u8 32, .int .u8 100, .int .u8 111, .int .u8 32, .int .u8 121, .int .u8 97, .int .u8 32, .int .u8 119, .int .u8 97, .int .u8 110, .int .u8 116, .int .u8 32, .int .u8 102, .int .u8 111, .int .u8 114, .int .u8 32, .int .u8 110, .int .u8 111, .int .u8 116, .int .u8 104, .int .u8 105, .int .u8 110, .int .u8 103, .int .u8 63]) (28, 29) rfl (by decide)
      rw [show (w2.alloc (.cells #[.int .u8 74, .int .u8 101, .int .u8 102, .int .u8 101] 5 (4, 5))).heap.size = w2.heap.size + 1 by simp] at hinB
      refine (tag_two _ _ _ _ _ (HK.out.below HBB.out (by omega)) ((hin1.below hbB).more hbB.size) hinB).mono ?_
      rintro e w4 ⟨d2, rfl, hd2, hb4⟩
      have hr4 := hr3.below hb4 hr3.lt
      have hb04 := HBB.out.trans (hb4.mono HBB.out.size)
      obtain ⟨D2, HD2⟩ : ∃ D2, Hid (D2 = d2.map S.byteV) := ⟨_, Lib.hid rfl⟩
      have HD2i := Lib.hid (show (Tryd.prog.info? 22).map (·.size) = some D2.toArray.size by rw [HD2.out, S.info_d32]; simp [hd2.len])
      have HD2o := Lib.hid (show D2.toArray.all (·.oneCell') = true by rw [HD2.out]; exact S.bvals_one _)
      have HD2l := Lib.hid (show D2.length = 32 by rw [HD2.out]; simp [hd2.len])
      have HX2 := Lib.hid (fun w => rhex_of d2 _ hd2 w)
      rw [← HD2.out] at HX2
      rw [← HD2.out]
      clear hr2 hr3 hb02 hin1 hinB hbB hb4 HBA HBB hlt3
      go_wp2_with (refine S.wpList_store_but rfl 22 (.tmp 4) (.tmp 24) rfl w4.heap.size D2 rfl rfl _ _ (S.Row.made (l := List.replicate 32 (S.byteV 0)) _ _ _ rfl rfl) HD2i.out (by rw [HD2l.out]; rfl) HD2o.out ?_; intro w5 hr5 hbut5; have hra5 := hbut5.row (hr4.alloc _) (by have := hr4.lt; omega); have hb05 := (hb04.alloc hb04.size (.cells (Array.replicate 32 (S.byteV 0)) 22)).trans (hbut5.below (C := w.heap.size) hb04.size (by have := hb04.size; simp; omega)); clear hbut5 hb04 hr4)
      have HBA := Lib.hid (hb05.alloc hb05.size (.cells #[.int .u8 97, .int .u8 98, .int .u8 99] 5 (3, 4)))
      have HBB := Lib.hid (HBA.out.alloc HBA.out.size (.cells #[.int .u8 97, .int .u8 98, .int .u8 100] 5 (3, 4)))
      have hra6 := (hra5.alloc (.cells #[.int .u8 97, .int .u8 98, .int .u8 99] 5 (3, 4))).alloc (.cells #[.int .u8 97, .int .u8 98, .int .u8 100] 5 (3, 4))
      have hr6 := (hr5.alloc (.cells #[.int .u8 97, .int .u8 98, .int .u8 99] 5 (3, 4))).alloc (.cells #[.int .u8 97, .int .u8 98, .int .u8 100] 5 (3, 4))
      have hin1 := BytesIn.made_tag (w := w5) (l := [97, 98, 99]) (cs := #[.int .u8 97, .int .u8 98, .int .u8 99]) (3, 4) rfl (by decide)
      have hbB : Below (w5.alloc (.cells #[.int .u8 97, .int .u8 98, .int .u8 99] 5 (3, 4))).heap.size (w5.alloc (.cells #[.int .u8 97, .int .u8 98, .int .u8 99] 5 (3, 4))) ((w5.alloc (.cells #[.int .u8 97, .int .u8 98, .int .u8 99] 5 (3, 4))).alloc (.cells #[.int .u8 97, .int .u8 98, .int .u8 100] 5 (3, 4))) := (Below.refl _ _).alloc (Nat.le_refl _) _
      have hinB := BytesIn.made_tag (w := w5.alloc (.cells #[.int .u8 97, .int .u8 98, .int .u8 99] 5 (3, 4))) (l := [97, 98, 100]) (cs := #[.int .u8 97, .int .u8 98, .int .u8 100]) (3, 4) rfl (by decide)
      rw [show (w5.alloc (.cells #[.int .u8 97, .int .u8 98, .int .u8 99] 5 (3, 4))).heap.size = w5.heap.size + 1 by simp] at hinB
      refine (equal_one _ _ _ _ _ ((hin1.below hbB).more hbB.size) hinB).mono ?_
      rintro e w7 ⟨rfl, hb7⟩
      have hra7 := hra6.below hb7 hra6.lt
      have hr7 := hr6.below hb7 hr6.lt
      have hb07 := HBB.out.trans (hb7.mono HBB.out.size)
      clear hra5 hr5 hra6 hr6 hb05 hin1 hinB hbB hb7 HBA HBB
      go_wp2_with fail
      have HBA := Lib.hid (hb07.alloc hb07.size (.cells #[.int .u8 97, .int .u8 98, .int .u8 99] 5 (3, 4)))
      have HBB := Lib.hid (HBA.out.alloc HBA.out.size (.cells #[.int .u8 97, .int .u8 98] 5 (2, 3)))
      have hra8 := (hra7.alloc (.cells #[.int .u8 97, .int .u8 98, .int .u8 99] 5 (3, 4))).alloc (.cells #[.int .u8 97, .int .u8 98] 5 (2, 3))
      have hr8 := (hr7.alloc (.cells #[.int .u8 97, .int .u8 98, .int .u8 99] 5 (3, 4))).alloc (.cells #[.int .u8 97, .int .u8 98] 5 (2, 3))
      have hin1 := BytesIn.made_tag (w := w7) (l := [97, 98, 99]) (cs := #[.int .u8 97, .int .u8 98, .int .u8 99]) (3, 4) rfl (by decide)
      have hbB : Below (w7.alloc (.cells #[.int .u8 97, .int .u8 98, .int .u8 99] 5 (3, 4))).heap.size (w7.alloc (.cells #[.int .u8 97, .int .u8 98, .int .u8 99] 5 (3, 4))) ((w7.alloc (.cells #[.int .u8 97, .int .u8 98, .int .u8 99] 5 (3, 4))).alloc (.cells #[.int .u8 97, .int .u8 98] 5 (2, 3))) := (Below.refl _ _).alloc (Nat.le_refl _) _
      have hinB := BytesIn.made_tag (w := w7.alloc (.cells #[.int .u8 97, .int .u8 98, .int .u8 99] 5 (3, 4))) (l := [97, 98]) (cs := #[.int .u8 97, .int .u8 98]) (2, 3) rfl (by decide)
      rw [show (w7.alloc (.cells #[.int .u8 97, .int .u8 98, .int .u8 99] 5 (3, 4))).heap.size = w7.heap.size + 1 by simp] at hinB
      refine (equal_two _ _ _ _ _ ((hin1.below hbB).more hbB.size) hinB).mono ?_
      rintro e w9 ⟨rfl, hb9⟩
      have hra9 := hra8.below hb9 hra8.lt
      have hr9 := hr8.below hb9 hr8.lt
      have hb09 := HBB.out.trans (hb9.mono HBB.out.size)
      clear hra7 hr7 hra8 hr8 hb07 hin1 hinB hbB hb9 HBA HBB kc kd
      go_wp2_with (refine wpList_load_row rfl 22 (.tmp 3) rfl w1.heap.size rfl _ D1.toArray (0, 0) _ hra9 Tryd.underlying22 rfl HD1i.out ?_)
      refine (HX1.out _).mono ?_
      rintro e w10 ⟨rfl, hb10⟩
      have hr10 := hr9.below hb10 hr9.lt
      have HB10 := Lib.hid (hb09.trans (hb10.mono hb09.size))
      clear hra9 hr9 hb09 hb10
      unfold M.hex1
      go_wp2_with (refine S.wpList_load_guard rfl 22 (.tmp 4) rfl w4.heap.size rfl _ D2.toArray (0, 0) _ hr10 Tryd.underlying22 rfl HD2i.out ?_)
      refine (HX2.out _).mono ?_
      rintro e w11 ⟨rfl, hb11⟩
      have HB11 := Lib.hid (HB10.out.trans (hb11.mono HB10.out.size))
      clear hr10 hb11
      unfold M.hex2
      go_wp2_with fail
      go_ret
      exact ⟨rfl, HB11.out⟩
end Go.Proofs.YtgpgnfdbjljljaaDoor
