/- How the digits of a digest are read: the mathematics, and the contract of strings.IndexByte. -/
import Derived.Test.YtgpgnfdbjljljaaDoorShaEq
import Derived.Lib.Bytealg
import Derived.Lib.IndexLaws
namespace Go.Proofs.YtgpgnfdbjljljaaDoor
open Go.RowKit
namespace S
/-- The number of a digit; -1: it is none. -/
def dig (c : UInt8) : Int := Lib.indexByte digitsL c
theorem idx_first : ∀ {l : List UInt8} {c : UInt8} {k : Nat}, l[k]? = some c → (∀ j, j < k → l[j]? ≠ some c) → Lib.indexByte l c = (k : Int)
  | [], _, _, h, _ => by simp at h
  | b :: l, c, 0, h, _ => by
    have : b = c := by simpa using h
    unfold Lib.indexByte
    rw [this, beq_self_eq_true]
    rfl
  | b :: l, c, k + 1, h, hn => by
    have hb : (b == c) = false := beq_eq_false_iff_ne.2 (fun e => hn 0 (by omega) (by simp [e]))
    have ih := idx_first (l := l) (c := c) (k := k) (by simpa using h) (fun j hj => by have := hn (j + 1) (by omega); simpa using this)
    have hk : ((k : Int) == -1) = false := beq_eq_false_iff_ne.2 (by omega)
    unfold Lib.indexByte
    rw [hb, ih, hk]
    simp
theorem idx_none : ∀ {l : List UInt8} {c : UInt8}, (∀ j, j < l.length → l[j]? ≠ some c) → Lib.indexByte l c = -1
  | [], _, _ => rfl
  | b :: l, c, hn => by
    have hb : (b == c) = false := beq_eq_false_iff_ne.2 (fun e => hn 0 (by simp) (by simp [e]))
    have ih := idx_none (l := l) (c := c) (fun j hj => by have := hn (j + 1) (by simpa using hj); simpa using this)
    unfold Lib.indexByte
    rw [hb, ih]
    rfl
theorem dig_ge (c : UInt8) : -1 ≤ dig c := Lib.indexByte_ge _ _
theorem dig_hexd {n : Nat} (h : n < 16) : dig (hexd n) = (n : Int) := by
  obtain rfl | rfl | rfl | rfl | rfl | rfl | rfl | rfl | rfl | rfl | rfl | rfl | rfl | rfl | rfl | rfl : n = 0 ∨ n = 1 ∨ n = 2 ∨ n = 3 ∨ n = 4 ∨ n = 5 ∨ n = 6 ∨ n = 7 ∨ n = 8 ∨ n = 9 ∨ n = 10 ∨ n = 11 ∨ n = 12 ∨ n = 13 ∨ n = 14 ∨ n = 15 := by omega
  all_goals decide +kernel
theorem hexd_dig {c : UInt8} {o : Nat} (h : dig c = (o : Int)) : o < 16 ∧ hexd o = c := by
  obtain ⟨h1, _⟩ := Lib.indexByte_some (l := digitsL) h
  have h2 := (List.getElem?_eq_some_iff.1 h1).1
  refine ⟨h2, ?_⟩
  unfold hexd
  rw [List.getD_eq_getElem?_getD, h1]
  rfl
/-- Whether two digits stand there. -/
def two (s : List UInt8) (i : Nat) : Bool := decide (0 ≤ dig (s.getD (2 * i) 0)) && decide (0 ≤ dig (s.getD (2 * i + 1) 0))
def good (s : List UInt8) : Bool := decide (s.length = 64) && (List.range 32).all (two s)
/-- The byte that two digits are. -/
def pv (s : List UInt8) (i : Nat) : UInt8 := UInt8.ofNat (16 * (dig (s.getD (2 * i) 0)).toNat + (dig (s.getD (2 * i + 1) 0)).toNat)
def read (s : List UInt8) (k : Nat) : List UInt8 := (List.range k).map (pv s) ++ List.replicate (32 - k) 0
def parsed (s : List UInt8) : List UInt8 := if good s then read s 32 else List.replicate 32 0
def perr (s : List UInt8) : Int := if good s then 0 else 6
theorem read_len (s : List UInt8) {k : Nat} (h : k ≤ 32) : (read s k).length = 32 := by
  unfold read
  rw [List.length_append, List.length_map, List.length_range, List.length_replicate]
  omega
theorem parsed_len (s : List UInt8) : (parsed s).length = 32 := by
  unfold parsed
  split
  · exact read_len s (Nat.le_refl _)
  · simp
theorem read_zero (s : List UInt8) : read s 0 = List.replicate 32 0 := by simp [read]
theorem read_at (s : List UInt8) {k : Nat} (h : k < 32) : ((read s k).map byteV)[k]? = some (.int .u8 0) := by
  unfold read
  rw [List.getElem?_map, List.getElem?_append_right (by simp), List.length_map, List.length_range, Nat.sub_self, List.getElem?_replicate, if_pos (by omega)]
  rfl
theorem read_set (s : List UInt8) {k : Nat} (h : k < 32) : ((read s k).map byteV).set k (.int .u8 ((pv s k).toNat : Int)) = (read s (k + 1)).map byteV := by
  unfold read
  obtain ⟨m, hm⟩ : ∃ m, 32 - k = m + 1 := ⟨31 - k, by omega⟩
  rw [show (Value.int .u8 ((pv s k).toNat : Int)) = byteV (pv s k) from rfl, ← List.map_set, hm, List.replicate_succ, List.set_append_right _ _ (by simp), List.length_map, List.length_range, Nat.sub_self, List.set_cons_zero, List.range_succ, show 32 - (k + 1) = m by omega]
  simp
theorem good_iff (s : List UInt8) : good s = true ↔ s.length = 64 ∧ ∀ i, i < 32 → two s i = true := by
  unfold good
  rw [Bool.and_eq_true, decide_eq_true_eq, List.all_eq_true]
  exact ⟨fun ⟨h1, h2⟩ => ⟨h1, fun i hi => h2 i (List.mem_range.2 hi)⟩, fun ⟨h1, h2⟩ => ⟨h1, fun i hi => h2 i (List.mem_range.1 hi)⟩⟩
theorem hex_even : ∀ (l : List UInt8) (i : Nat), i < l.length → (hexOf l)[2 * i]? = some (hexd (at_ l i / 16)) ∧ (hexOf l)[2 * i + 1]? = some (hexd (at_ l i % 16))
  | [], i, h => by simp at h
  | c :: l, 0, _ => ⟨rfl, rfl⟩
  | c :: l, i + 1, h => by
    obtain ⟨h1, h2⟩ := hex_even l i (by simpa using h)
    have e : hexOf (c :: l) = hexd (c.toNat / 16) :: hexd (c.toNat % 16) :: hexOf l := rfl
    have a : at_ (c :: l) (i + 1) = at_ l i := rfl
    rw [e, a, show 2 * (i + 1) = (2 * i) + 1 + 1 by omega, List.getElem?_cons_succ, List.getElem?_cons_succ, List.getElem?_cons_succ, List.getElem?_cons_succ]
    exact ⟨h1, h2⟩
theorem getD_of {l : List UInt8} {k : Nat} {c : UInt8} (h : l[k]? = some c) : l.getD k 0 = c := by
  rw [List.getD_eq_getElem?_getD, h]; rfl
theorem at_lt256 (l : List UInt8) (i : Nat) : at_ l i < 256 := at_lt l i
/-- What is written is read as what it was written of. -/
theorem good_hex {d : List UInt8} (h : d.length = 32) : good (hexOf d) = true ∧ parsed (hexOf d) = d := by
  have hx : ∀ i, i < 32 → dig ((hexOf d).getD (2 * i) 0) = ((at_ d i / 16 : Nat) : Int) ∧ dig ((hexOf d).getD (2 * i + 1) 0) = ((at_ d i % 16 : Nat) : Int) := by
    intro i hi
    obtain ⟨h1, h2⟩ := hex_even d i (by omega)
    have := at_lt d i
    rw [getD_of h1, getD_of h2]
    exact ⟨dig_hexd (by omega), dig_hexd (by omega)⟩
  have hg : good (hexOf d) = true := (good_iff _).2 ⟨by rw [hexOf_len, h], fun i hi => by
    obtain ⟨h1, h2⟩ := hx i hi
    unfold two
    rw [h1, h2]
    simp
    omega⟩
  refine ⟨hg, ?_⟩
  unfold parsed
  rw [if_pos hg]
  unfold read
  rw [Nat.sub_self, List.replicate_zero, List.append_nil]
  apply List.ext_getElem (by rw [List.length_map, List.length_range, h])
  intro i h1 h2
  rw [List.getElem_map, List.getElem_range]
  obtain ⟨g1, g2⟩ := hx i (by omega)
  unfold pv
  rw [g1, g2, Int.toNat_natCast, Int.toNat_natCast, show 16 * (at_ d i / 16) + at_ d i % 16 = at_ d i by omega]
  unfold at_
  rw [List.getD_eq_getElem?_getD, List.getElem?_eq_getElem h2]
  exact UInt8.ofNat_toNat
/-- What is read is written as what it was read of. -/
theorem hex_good {s : List UInt8} (h : good s = true) : hexOf (parsed s) = s := by
  obtain ⟨hl, ht⟩ := (good_iff s).1 h
  have hp : parsed s = read s 32 := by unfold parsed; rw [if_pos h]
  have hpl : (parsed s).length = 32 := parsed_len s
  apply List.ext_getElem?
  intro j
  by_cases hj : j < 64
  · obtain ⟨i, r, hr, rfl⟩ : ∃ i r, r < 2 ∧ j = 2 * i + r := ⟨j / 2, j % 2, Nat.mod_lt _ (by decide), by omega⟩
    have hi : i < 32 := by omega
    obtain ⟨h1, h2⟩ := hex_even (parsed s) i (by omega)
    have ha : at_ (parsed s) i = (pv s i).toNat := by
      unfold at_
      rw [hp]
      unfold read
      rw [Nat.sub_self, List.replicate_zero, List.append_nil, List.getD_eq_getElem?_getD, List.getElem?_map, List.getElem?_range hi]
      rfl
    have htw := ht i hi
    unfold two at htw
    rw [Bool.and_eq_true, decide_eq_true_eq, decide_eq_true_eq] at htw
    obtain ⟨x, hx⟩ := Int.eq_ofNat_of_zero_le htw.1
    obtain ⟨y, hy⟩ := Int.eq_ofNat_of_zero_le htw.2
    obtain ⟨hx16, hxc⟩ := hexd_dig hx
    obtain ⟨hy16, hyc⟩ := hexd_dig hy
    have hv : (pv s i).toNat = 16 * x + y := by
      unfold pv
      rw [hx, hy]
      simp only [Int.toNat_natCast, UInt8.toNat_ofNat']
      omega
    rw [ha, hv] at h1 h2
    rw [show (16 * x + y) / 16 = x by omega, hxc] at h1
    rw [show (16 * x + y) % 16 = y by omega, hyc] at h2
    have e0 : s[2 * i]? = some (s.getD (2 * i) 0) := by rw [List.getD_eq_getElem?_getD, List.getElem?_eq_getElem (by omega)]; rfl
    have e1 : s[2 * i + 1]? = some (s.getD (2 * i + 1) 0) := by rw [List.getD_eq_getElem?_getD, List.getElem?_eq_getElem (by omega)]; rfl
    obtain rfl | rfl : r = 0 ∨ r = 1 := by omega
    · rw [Nat.add_zero, h1, e0]
    · rw [h2, e1]
  · rw [List.getElem?_eq_none (by rw [hexOf_len, hpl]; omega), List.getElem?_eq_none (by omega)]
theorem or_dig : ∀ x : Fin 16, ∀ y : Fin 16, bits .or .i64 ((x.val : Int) * 16) (y.val : Int) = ((16 * x.val + y.val : Nat) : Int) := by decide +kernel
end S
set_option maxHeartbeats 400000 in
theorem LiteIndexByte_any (s : ByteArray) (c : Int) (w : World) :
    Calls Tryd.prog 64 #[.string s, .int .u8 c] w fun e w' => e = .returned (.int .i64 (Lib.indexByte s.data.toList c.toNat.toUInt8)) ∧ w = w' := by
  go_enter Tryd.func64, Tryd.ntmps64
  go_wp2_with fail
  rw [run_callFunc_extern Tryd.func70 (by kernel_rfl) (by kernel_rfl) (by kernel_rfl) (e := Extern.BytealgIndexByte.indexByte) (by kernel_rfl), Lib.run_indexByteString]
  simp only [Result.andThen]
  rw [Oper.upon_value]
  go_wp2_with fail
  go_ret
  exact ⟨rfl, rfl⟩
set_option maxHeartbeats 400000 in
theorem IndexByte_any (s : ByteArray) (c : Int) (w : World) :
    Calls Tryd.prog 47 #[.string s, .int .u8 c] w fun e w' => e = .returned (.int .i64 (Lib.indexByte s.data.toList c.toNat.toUInt8)) ∧ w = w' := by
  go_enter Tryd.func47, Tryd.ntmps47
  go_wp2_with fail
  refine (LiteIndexByte_any s c _).mono ?_
  rintro e w' ⟨rfl, rfl⟩
  go_wp2_with fail
  go_ret
  exact ⟨rfl, rfl⟩
end Go.Proofs.YtgpgnfdbjljljaaDoor
