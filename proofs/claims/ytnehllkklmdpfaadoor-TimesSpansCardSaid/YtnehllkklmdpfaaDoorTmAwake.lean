/- The contract of awake. -/
import Derived.Test.YtnehllkklmdpfaaDoorTmPrint
namespace Go.Proofs.YtnehllkklmdpfaaDoor
open Go.RowKit
open T (SV)
set_option linter.unusedSimpArgs false
set_option maxRecDepth 100000
/-- A slice of spans that is just made. -/
theorem made_list (w : World) (l : List SV) (cs : Array Value) (hcs : cs.toList = spCells l) (t : TypeId) (hn : ∀ s ∈ l, T.R64 s.1 ∧ T.R64 s.2) (hl : l.length ≤ 1000) : SpIn (w.alloc (.cells cs t)) (w.heap.size + 1) (some ⟨w.heap.size, 0, none⟩) l.length l :=
  ⟨Nat.le_refl _, by unfold maxLen; omega, fun e => (by cases e), fun ad e k hk => by
    injection e with e
    subst e
    have hat := spCells_at l k hk
    rw [← hcs] at hat
    simp only [Array.getElem?_toList] at hat
    refine ⟨Nat.lt_succ_self _, ?_, ?_⟩
    · rw [addr_lit, cell_of_row _ _ _ _ _ _ (World.alloc_heap_new _ _), Nat.zero_add]; exact hat.1
    · rw [addr_lit, cell_of_row _ _ _ _ _ _ (World.alloc_heap_new _ _), Nat.zero_add]; exact hat.2, hn⟩
theorem made_on (w : World) (l : List SV) (cs : Array Value) (hcs : cs.toList = spCells l) (t : TypeId) (hn : ∀ s ∈ l, T.R64 s.1 ∧ T.R64 s.2) (hl : l.length ≤ 1000) : SpIn (w.alloc (.cells cs t)) (w.alloc (.cells cs t)).heap.size (some ⟨w.heap.size, 0, none⟩) l.length l :=
  (made_list w l cs hcs t hn hl).more (by simp)
namespace T
def uL : List SV := [(5, 7), (0, 2), (2, 3)]
def uR : List SV := [(0, 3), (5, 7)]
def mA : List SV := [(0, 10)]
def mB : List SV := [(3, 4), (9, 20)]
def mR : List SV := [(0, 3), (4, 9)]
theorem good2 {a b : SV} (h : (0 ≤ a.1 ∧ a.1 < a.2 ∧ a.2 ≤ big) ∧ (0 ≤ b.1 ∧ b.1 < b.2 ∧ b.2 ≤ big)) : Good [a, b] := fun s hs => by
  simp only [List.mem_cons, List.not_mem_nil, or_false] at hs
  rcases hs with rfl | rfl
  · exact h.1
  · exact h.2
theorem good_uL : Good uL := fun s hs => by
  unfold uL at hs
  simp only [List.mem_cons, List.not_mem_nil, or_false] at hs
  rcases hs with rfl | rfl | rfl <;> decide
theorem good_uR : Good uR := good2 (by decide)
theorem good_mA : Good mA := fun s hs => by
  unfold mA at hs
  simp only [List.mem_cons, List.not_mem_nil, or_false] at hs
  rcases hs with rfl; decide
theorem good_mB : Good mB := good2 (by decide)
theorem good_mR : Good mR := good2 (by decide)
theorem asc2 {a b : SV} (h1 : a.1 < a.2) (h2 : a.2 < b.1) (h3 : b.1 < b.2) : Asc [a, b] :=
  ⟨fun s hs => by
    simp only [List.mem_cons, List.not_mem_nil, or_false] at hs
    rcases hs with rfl | rfl
    · exact h1
    · exact h3, by simp [h2]⟩
theorem in2 {a b : SV} {t : Int} : In [a, b] t ↔ (a.1 ≤ t ∧ t < a.2) ∨ (b.1 ≤ t ∧ t < b.2) := by rw [in_cons, in_one]
theorem canon_u : Canon (In uL) uR := ⟨asc2 (by decide) (by decide) (by decide), fun t => by
  unfold uR uL
  rw [in2, in_cons, in2]
  simp only
  omega⟩
theorem canon_m : Canon (fun t => In mA t ∧ ¬ In mB t) mR := ⟨asc2 (by decide) (by decide) (by decide), fun t => by
  unfold mR mA mB
  rw [in2, in_one, in2]
  simp only
  omega⟩
def tx : List UInt8 := [49, 100, 48, 50, 58, 48, 51, 58, 48, 52]
theorem text_tx : text 93784 = tx := by
  unfold text
  rw [show (93784 : Int) / 86400 = 1 from rfl, show (93784 : Int) % 86400 / 3600 = 2 from rfl, show (93784 : Int) % 3600 / 60 = 3 from rfl, show (93784 : Int) % 60 = 4 from rfl]
  unfold Lib.itoa
  rw [if_neg (by decide), show (1 : Int).toNat = 1 from rfl, Lib.decDigits_one (by decide)]
  rfl
theorem listE_uL : listE 3 uL = 0 := by unfold listE; rw [if_neg (by decide)]; exact good_errL good_uL
theorem listsE_m : listsE 1 2 mA mB = 0 := by
  unfold listsE
  rw [if_neg (by decide), if_neg (by decide)]
  exact good_errL (fun s hs => (List.mem_append.1 hs).elim (good_mA s) (good_mB s))
end T
theorem r64_of {x : Int} (h : -9223372036854775808 ≤ x ∧ x ≤ 9223372036854775807) : T.R64 x := h
/-- What Union and Minus return at the examples. -/
def KnownPost (r : List SV) (w : World) (e : Ending) (w' : World) : Prop := ∃ A c, e = .returned (.tuple #[.slice A r.length c, .int .i64 0]) ∧ SpIn w' w'.heap.size A c r ∧ Below w.heap.size w w'
theorem union_known (w : World) (c : Nat) (A : Option Addr) (hl : SpIn w w.heap.size A c T.uL) : Calls Tryd.prog 24 #[.slice A 3 c] w (KnownPost T.uR w) := by
  refine (Union_any A c 3 T.uL w hl rfl).mono ?_
  rintro e w' ⟨v, acc, rfl, hown, hc, _, _, hb⟩
  obtain rfl := (hc T.listE_uL).eq T.canon_u
  obtain ⟨A2, c2, rfl, hsp⟩ := hown.reads T.good_uR.nums
  rw [T.listE_uL]
  exact ⟨A2, c2, rfl, hsp, hb⟩
theorem minus_known (w : World) (c c2 : Nat) (A A2 : Option Addr) (hl : SpIn w w.heap.size A c T.mA) (hl2 : SpIn w w.heap.size A2 c2 T.mB) : Calls Tryd.prog 26 #[.slice A 1 c, .slice A2 2 c2] w (KnownPost T.mR w) := by
  refine (Minus_any A A2 c c2 1 2 T.mA T.mB w hl hl2 rfl rfl).mono ?_
  rintro e w' ⟨v, acc, rfl, hown, hc, _, _, hb⟩
  obtain rfl := (hc T.listsE_m).eq T.canon_m
  obtain ⟨A2, c2, rfl, hsp⟩ := hown.reads T.good_mR.nums
  rw [T.listsE_m]
  exact ⟨A2, c2, rfl, hsp, hb⟩
set_option maxHeartbeats 4000000 in
theorem awake_any (w : World) (hT : Tab w) : Calls Tryd.prog 18 #[] w fun e w' => e = .returned (.bool true) ∧ Below w.heap.size w w' := by
  have HT := Lib.hid hT
  have A1 := Lib.hid (fun w => Add_any 5 7 (r64_of (by decide)) (r64_of (by decide)) w)
  rw [show T.pr (T.addV 5 7) (T.badE 5 7) = .returned (.tuple #[.int .i64 12, .int .i64 0]) from rfl] at A1
  have A2 := Lib.hid (fun w => Add_any 9223372036854775807 1 (r64_of (by decide)) (r64_of (by decide)) w)
  rw [show T.pr (T.addV 9223372036854775807 1) (T.badE 9223372036854775807 1) = .returned (.tuple #[.int .i64 9223372036854775807, .int .i64 0]) from rfl] at A2
  have A3 := Lib.hid (fun w => Passed_any 10 9 (r64_of (by decide)) (r64_of (by decide)) w)
  rw [show T.prB (T.passB 10 9) (T.badE 10 9) = .returned (.tuple #[.bool false, .int .i64 0]) from rfl] at A3
  have A4 := Lib.hid (fun w => Left_any 10 7 (r64_of (by decide)) (r64_of (by decide)) w)
  rw [show T.pr (T.leftV 10 7) (T.badE 10 7) = .returned (.tuple #[.int .i64 3, .int .i64 0]) from rfl] at A4
  have A5 := Lib.hid (fun w => Advance_any 5 4 w)
  rw [show T.pr (T.advV 5 4) (T.advE 5 4) = .returned (.tuple #[.int .i64 0, .int .i64 18]) from rfl] at A5
  clear hT
  go_enter Tryd.func18, Tryd.ntmps18
  go_wp2_with fail
  refine (A1.out _).mono ?_
  rintro e w1 ⟨rfl, hb1⟩
  go_wp2_with fail
  refine (A2.out _).mono ?_
  rintro e w2 ⟨rfl, hb⟩
  have hb2 := bt hb1 hb1.size hb
  clear hb hb1
  go_wp2_with fail
  refine (A3.out _).mono ?_
  rintro e w3 ⟨rfl, hb⟩
  have hb3 := bt hb2 hb2.size hb
  clear hb hb2
  go_wp2_with fail
  refine (A4.out _).mono ?_
  rintro e w4 ⟨rfl, hb⟩
  have hb4 := bt hb3 hb3.size hb
  clear hb hb3
  go_wp2_with fail
  refine (A5.out _).mono ?_
  rintro e w5 ⟨rfl, hb⟩
  have hb5 := bt hb4 hb4.size hb
  clear hb hb4 A1 A2 A3 A4 A5
  have HU := Lib.hid (union_known (w5.alloc (.cells #[.int .i64 5, .int .i64 7, .int .i64 0, .int .i64 2, .int .i64 2, .int .i64 3] 32)) 3 _ (made_on w5 T.uL _ rfl _ T.good_uL.nums (by decide)))
  have hb5a := hb5.alloc hb5.size (.cells #[.int .i64 5, .int .i64 7, .int .i64 0, .int .i64 2, .int .i64 2, .int .i64 3] 32)
  go_wp2_with fail
  refine HU.out.mono ?_
  rintro e w6 ⟨Au, cu, rfl, hu, hb⟩
  have hb6 := bt hb5a hb5a.size hb
  have HSu := Lib.hid hu
  clear hb hb5 hb5a HU hu
  have hq1 : Below w6.heap.size w6 (w6.alloc (.cells #[.int .i64 0, .int .i64 10] 32)) := below_new _ _
  have HM := Lib.hid (minus_known ((w6.alloc (.cells #[.int .i64 0, .int .i64 10] 32)).alloc (.cells #[.int .i64 3, .int .i64 4, .int .i64 9, .int .i64 20] 32)) 1 2 _ _ ((made_on w6 T.mA #[.int .i64 0, .int .i64 10] rfl 32 T.good_mA.nums (by decide)).on (below_new _ _)) (made_on (w6.alloc (.cells #[.int .i64 0, .int .i64 10] 32)) T.mB #[.int .i64 3, .int .i64 4, .int .i64 9, .int .i64 20] rfl 32 T.good_mB.nums (by decide)))
  have hb6a := (hb6.alloc hb6.size (.cells #[.int .i64 0, .int .i64 10] 32)).alloc (by have := hb6.size; simp; omega) (.cells #[.int .i64 3, .int .i64 4, .int .i64 9, .int .i64 20] 32)
  have HSu2 := Lib.hid ((HSu.out.on hq1).on (below_new _ (.cells #[.int .i64 3, .int .i64 4, .int .i64 9, .int .i64 20] 32)))
  rw [World.size_alloc] at HM
  clear hq1
  go_wp2_with fail
  refine HM.out.mono ?_
  rintro e w7 ⟨Am, cm, rfl, hm, hb⟩
  have HSu3 := Lib.hid (HSu2.out.on hb)
  have HSm := Lib.hid hm
  have hb7 := bt hb6a hb6a.size hb
  have HP := Lib.hid (Print_any 93784 (r64_of (by decide)) w7 (HT.out.on hb7))
  unfold PrintPost at HP
  rw [show T.printL 93784 = T.tx from (if_pos (by decide)).trans T.text_tx, show T.printE 93784 = 0 from rfl] at HP
  clear hb hm hb6 hb6a HM HSu HSu2
  go_wp2_with fail
  refine HP.out.mono ?_
  rintro e w8 ⟨rfl, hb⟩
  have HSu4 := Lib.hid (HSu3.out.on hb)
  have HSm4 := Lib.hid (HSm.out.on hb)
  have hb8 := bt hb7 hb7.size hb
  have HPa := Lib.hid (Parse_any T.tx (by decide) w8 (HT.out.on hb8))
  clear hb hb7 HP HSu3 HSm
  go_wp2_with fail
  refine HPa.out.mono ?_
  rintro e w9 ⟨pv, pe, rfl, hpres, hb⟩
  obtain ⟨rfl, rfl⟩ := T.pres_eq hpres (Or.inl ⟨⟨by decide, by decide, T.text_tx.symm⟩, rfl⟩ : T.PRes T.tx 93784 0)
  have HSu5 := Lib.hid (HSu4.out.on hb)
  have HSm5 := Lib.hid (HSm4.out.on hb)
  have hb9 := bt hb8 hb8.size hb
  clear hb hb8 HPa HSu4 HSm4 hpres
  unfold T.pr
  go_wp2_with fail
  have HS1 := Lib.hid (RSame_eq Au _ cu 2 2 T.uR (w9.alloc (.cells #[.int .i64 0, .int .i64 3, .int .i64 5, .int .i64 7] 32)) (HSu5.out.on (below_new _ _)) (made_on w9 T.uR #[.int .i64 0, .int .i64 3, .int .i64 5, .int .i64 7] rfl 32 T.good_uR.nums (by decide)) rfl)
  refine HS1.out.mono ?_
  rintro e w10 ⟨rfl, hb⟩
  have HSm6 := Lib.hid ((HSm5.out.on (below_new _ _)).on hb)
  have hb10 := bt (hb9.alloc hb9.size (.cells #[.int .i64 0, .int .i64 3, .int .i64 5, .int .i64 7] 32)) (by have := hb9.size; simp; omega) hb
  clear hb hb9 HSu5 HSm5 HS1
  have HS2 := Lib.hid (RSame_eq Am _ cm 2 2 T.mR (w10.alloc (.cells #[.int .i64 0, .int .i64 3, .int .i64 4, .int .i64 9] 32)) (HSm6.out.on (below_new _ _)) (made_on w10 T.mR #[.int .i64 0, .int .i64 3, .int .i64 4, .int .i64 9] rfl 32 T.good_mR.nums (by decide)) rfl)
  go_wp2_with fail
  refine HS2.out.mono ?_
  rintro e w11 ⟨rfl, hb⟩
  have hb11 := bt (hb10.alloc hb10.size (.cells #[.int .i64 0, .int .i64 3, .int .i64 4, .int .i64 9] 32)) (by have := hb10.size; simp; omega) hb
  clear hb hb10 HSm6 HS2
  have htx : ((⟨T.tx.toArray⟩ : ByteArray).toList == (⟨#[49, 100, 48, 50, 58, 48, 51, 58, 48, 52]⟩ : ByteArray).toList) = true := by rw [ByteArray.toList_eq, ByteArray.toList_eq]; rfl
  go_wp2_with fail
  go_ret
  exact ⟨rfl, hb11⟩
end Go.Proofs.YtnehllkklmdpfaaDoor
