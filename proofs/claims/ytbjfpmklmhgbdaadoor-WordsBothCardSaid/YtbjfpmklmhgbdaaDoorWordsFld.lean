/- A slice of fields that reads as a list, opened from an argument; what Join returns. -/
import Derived.Test.YtbjfpmklmhgbdaaDoorWordsRScan
import Derived.Test.YtbjfpmklmhgbdaaDoorShelf
import Derived.Test.YtbjfpmklmhgbdaaDoorWordsQuote
import Derived.OpenShut
import Derived.ProofKit
import Derived.Deep.SlicePairs
namespace Go.Proofs.YtbjfpmklmhgbdaaDoor
open Go Go.ChangeShapes Go.WideShapes Go.ChangeAt Go.RowKit Go.ChangeMaps
theorem addr_block (a : Addr) (n : Nat) : (a.add n).block = a.block := by unfold Addr.add; split <;> rfl
/-- The slice '.slice A fs.length c' reads as the fields fs, and lies below block B. -/
structure FieldsIn (w : World) (B : Nat) (A : Option Addr) (c : Nat) (fs : List FV) : Prop where
  le : fs.length ≤ c
  cap : c ≤ maxLen
  none_ : A = none → fs = [] ∧ c = 0
  cells : ∀ ad, A = some ad → ∀ k (h : k < fs.length), ad.block < B ∧ w.cell? (ad.add (k * 2)) = some (.string ⟨(fs[k]).1.toArray⟩) ∧ w.cell? (ad.add (k * 2 + 1)) = some (.bool (fs[k]).2)
namespace FieldsIn
theorem below {w w' : World} {B : Nat} {A : Option Addr} {c : Nat} {fs : List FV} (h : FieldsIn w B A c fs) (hb : Below B w w') : FieldsIn w' B A c fs :=
  ⟨h.le, h.cap, h.none_, fun ad e k hk => by
    obtain ⟨h1, h2, h3⟩ := h.cells ad e k hk
    exact ⟨h1, by rw [hb.cell (by rw [addr_block]; exact h1)]; exact h2, by rw [hb.cell (by rw [addr_block]; exact h1)]; exact h3⟩⟩
theorem more {w : World} {B B' : Nat} {A : Option Addr} {c : Nat} {fs : List FV} (h : FieldsIn w B A c fs) (hB : B ≤ B') : FieldsIn w B' A c fs :=
  ⟨h.le, h.cap, h.none_, fun ad e k hk => ⟨Nat.lt_of_lt_of_le (h.cells ad e k hk).1 hB, (h.cells ad e k hk).2⟩⟩
theorem nil_ (w : World) (B : Nat) : FieldsIn w B none 0 [] := ⟨Nat.le_refl _, by unfold maxLen; omega, fun _ => ⟨rfl, rfl⟩, fun _ e => by cases e⟩
end FieldsIn
def strOf : Value → List UInt8
  | .string s => s.data.toList
  | _ => []
def boolOf : Value → Bool
  | .bool b => b
  | _ => false
set_option maxRecDepth 100000 in
theorem open_fields_in {H : Type} {enc : TypeId × Value → H} {W : World} {base : Nat} {v0 : Value} {d0 : DataW H} {p : List MemPlace} (hv : Value.okWide Tryd.prog W .any base 32 v0) (h : DataW.Trod enc Tryd.prog W 0 (fun _ => true) true 32 v0 d0 p) :
    ∃ (A : Option Addr) (c : Nat) (fs : List FV), v0 = .slice A fs.length c ∧ FieldsIn W W.heap.size A c fs := by
  obtain ⟨a0, len, cap, rfl⟩ := okWide_slice Tryd.underlying32 hv
  obtain ⟨fuel, hf⟩ := h
  rcases Deep.open_slice_pairs Tryd.underlying32 Tryd.underlying45 (by kernel_rfl) rfl rfl (by kernel_rfl) (by kernel_rfl) hf with ⟨hcs, _⟩ | ⟨a, len', cap', m, n, V0, V1, D0, D1, P0, P1, hcs, _, hl, hm, hmm, _, hx⟩
  · simp [Value.cells] at hcs
    obtain ⟨rfl, rfl, rfl⟩ := hcs
    exact ⟨none, 0, [], rfl, FieldsIn.nil_ _ _⟩
  · simp [Value.cells] at hcs
    obtain ⟨rfl, rfl, rfl⟩ := hcs
    simp only [if_true] at hmm
    have hlen : ((List.range len).map fun i => ((strOf (V0 i), boolOf (V1 i)) : FV)).length = len := by simp
    refine ⟨some a, cap, (List.range len).map fun i => (strOf (V0 i), boolOf (V1 i)), by rw [hlen], by rw [hlen]; exact hl, hm, fun e => (by cases e), fun ad e k hk => ?_⟩
    injection e with e
    subst e
    rw [hlen] at hk
    obtain ⟨c0, c1, t0, t1⟩ := hx k (by omega)
    obtain ⟨s, e0, _, _⟩ := DataW.trod_string Tryd.underlying9 t0
    obtain ⟨q, e1, _⟩ := DataW.trod_bool Tryd.underlying4 t1
    simp only [List.cons.injEq, and_true] at e0 e1
    rw [e0] at c0
    rw [e1] at c1
    have hlt := World.block_lt_of_cell? W (a.add (k * 2)) c0
    rw [addr_block] at hlt
    simp only [List.getElem_map, List.getElem_range, e0, e1]
    exact ⟨hlt, c0, c1⟩
namespace W
/-- A field as it is written in a line. -/
def writeB (f : FV) : List UInt8 := if f.2 = true then 34 :: (escS f.1 ++ [34]) else f.1
/-- A field that may not be written. -/
def badF (f : FV) : Bool := !f.2 && !bareOk f.1
def lineB (fs : List FV) : List UInt8 := Lib.join (fs.map writeB) [32]
/-- What Join returns. -/
def joinV (fs : List FV) : List UInt8 := if longF fs = true ∨ fs.any badF = true ∨ 8192 < (lineB fs).length then [] else lineB fs
def joinE (fs : List FV) : Int := if longF fs = true then 3 else if fs.any badF = true then 6 else if 8192 < (lineB fs).length then 3 else 0
theorem line_none (fs : List FV) : lineB (fs.take 0) = [] := by simp [lineB, Lib.join_nil]
theorem line_snoc {fs : List FV} {k : Nat} (h : k < fs.length) : lineB (fs.take (k + 1)) = if k = 0 then writeB fs[k] else lineB (fs.take k) ++ [32] ++ writeB fs[k] := by
  have e : fs.take (k + 1) = fs.take k ++ [fs[k]] := (List.take_append_getElem h).symm
  unfold lineB
  rw [e, List.map_append]
  cases k with
  | zero => simp [Lib.join_one]
  | succ k =>
    rw [if_neg (by omega)]
    cases fs with
    | nil => simp at h
    | cons f fs =>
      rw [List.take_succ_cons, List.map_cons, List.cons_append, Lib.join_cons, Lib.join_cons]
      simp [Lib.joinTail]
theorem write_len {f : FV} : (writeB f).length ≤ 4 * f.1.length + 2 := by
  unfold writeB
  split
  · have := escS_len f.1
    simp only [List.length_cons, List.length_append, List.length_nil]
    omega
  · omega
theorem lens_le' (xs : List (List UInt8)) (m : Nat) (h : ∀ x ∈ xs, x.length ≤ m) : Lib.lens xs ≤ m * xs.length := by
  induction xs with
  | nil => simp [Lib.lens]
  | cons x r ih =>
    have h1 := h x (by simp)
    have h2 := ih (fun y hy => h y (by simp [hy]))
    simp only [Lib.lens, List.map_cons, List.sum_cons, List.length_cons, Nat.mul_add] at h2 ⊢
    omega
theorem line_len {fs : List FV} {m : Nat} (h : ∀ f ∈ fs, f.1.length ≤ m) : (lineB fs).length ≤ (4 * m + 3) * fs.length := by
  unfold lineB
  cases fs with
  | nil => simp [Lib.join_nil]
  | cons f fs =>
    rw [List.map_cons, Lib.join_length]
    have h1 := lens_le' (writeB f :: fs.map writeB) (4 * m + 2) (by
      intro x hx
      rw [← List.map_cons] at hx
      obtain ⟨g, hg, rfl⟩ := List.mem_map.1 hx
      have := write_len (f := g)
      have := h g hg
      omega)
    simp only [List.length_cons, List.length_map, List.length_nil, Nat.zero_add, Nat.one_mul] at h1 ⊢
    have e : (4 * m + 3) * (fs.length + 1) = (4 * m + 2) * (fs.length + 1) + (fs.length + 1) := by
      rw [show 4 * m + 3 = (4 * m + 2) + 1 by omega, Nat.add_mul, Nat.one_mul]
    omega
theorem long_no {fs : List FV} (h : longF fs = false) : fs.length ≤ 64 ∧ ∀ f ∈ fs, f.1.length ≤ 2000 := by
  unfold longF at h
  rw [Bool.or_eq_false_iff] at h
  refine ⟨by have := of_decide_eq_false h.2; omega, fun f hf => ?_⟩
  have := List.any_eq_false.1 h.1 f hf
  simp at this
  exact this
end W
end Go.Proofs.YtbjfpmklmhgbdaaDoor
