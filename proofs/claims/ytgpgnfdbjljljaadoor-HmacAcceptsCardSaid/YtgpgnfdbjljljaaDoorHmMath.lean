/- The mathematics of package hmac: the block of a key, its pads, tags, and how two strings of bytes are compared. -/
import Derived.Test.YtgpgnfdbjljljaaDoorShaMeth
namespace Go.Proofs.YtgpgnfdbjljljaaDoor
namespace M
/-- Bytes, followed by zeros. -/
def fit (k : List UInt8) : List UInt8 := k ++ List.replicate (64 - k.length) 0
def short (k : List UInt8) : List UInt8 := if 64 < k.length then S.digest k else k
/-- The block of a key. -/
def block (k : List UInt8) : List UInt8 := fit (short k)
/-- Each byte combined with one. -/
def mix (m : UInt8) (l : List UInt8) : List UInt8 := l.map (· ^^^ m)
def tagOf (blk b : List UInt8) : List UInt8 := S.digest (mix 92 blk ++ S.digest (mix 54 blk ++ b))
/-- The tag of bytes under a key. -/
def tag (k b : List UInt8) : List UInt8 := tagOf (block k) b
theorem short_len (k : List UInt8) : (short k).length ≤ 64 := by
  unfold short
  split
  · rw [S.digest_len]; omega
  · omega
theorem fit_len {k : List UInt8} (h : k.length ≤ 64) : (fit k).length = 64 := by
  unfold fit
  rw [List.length_append, List.length_replicate]
  omega
theorem block_len (k : List UInt8) : (block k).length = 64 := fit_len (short_len k)
theorem mix_len (m : UInt8) (l : List UInt8) : (mix m l).length = l.length := by simp [mix]
theorem tagOf_len (blk b : List UInt8) : (tagOf blk b).length = 32 := S.digest_len _
theorem tag_len (k b : List UInt8) : (tag k b).length = 32 := S.digest_len _
theorem block_long {k : List UInt8} (h : 64 < k.length) : block (S.digest k) = block k := by
  have h1 : short k = S.digest k := by unfold short; rw [if_pos h]
  have h2 : short (S.digest k) = S.digest k := by unfold short; rw [if_neg (by rw [S.digest_len]; omega)]
  unfold block
  rw [h1, h2]
theorem block_zeros {k : List UInt8} {n : Nat} (h : k.length + n ≤ 64) : block (k ++ List.replicate n 0) = block k := by
  have h1 : short k = k := by unfold short; rw [if_neg (by omega)]
  have h2 : short (k ++ List.replicate n 0) = k ++ List.replicate n 0 := by unfold short; rw [if_neg (by rw [List.length_append, List.length_replicate]; omega)]
  unfold block
  rw [h1, h2]
  unfold fit
  rw [List.append_assoc, List.replicate_append_replicate, List.length_append, List.length_replicate]
  congr 2
  omega
/-- The bits in which two strings differ, in their first bytes. -/
def acc (a b : List UInt8) : Nat → Nat
  | 0 => 0
  | k + 1 => acc a b k ||| (S.at_ a k ^^^ S.at_ b k)
theorem acc_lt (a b : List UInt8) : ∀ k, acc a b k < 256
  | 0 => by simp [acc]
  | k + 1 => Nat.or_lt_two_pow (n := 8) (acc_lt a b k) (Nat.xor_lt_two_pow (n := 8) (UInt8.toNat_lt _) (UInt8.toNat_lt _))
theorem or_zero {x y : Nat} : x ||| y = 0 ↔ x = 0 ∧ y = 0 := Nat.or_eq_zero_iff
theorem xor_zero {x y : Nat} : x ^^^ y = 0 ↔ x = y := by
  constructor
  · intro h
    have : x ^^^ y ^^^ y = 0 ^^^ y := by rw [h]
    rw [Nat.xor_assoc, Nat.xor_self, Nat.xor_zero, Nat.zero_xor] at this
    exact this
  · rintro rfl; exact Nat.xor_self x
theorem acc_zero (a b : List UInt8) : ∀ k, acc a b k = 0 ↔ ∀ i, i < k → S.at_ a i = S.at_ b i
  | 0 => by simp [acc]
  | k + 1 => by
    rw [acc, or_zero, xor_zero, acc_zero a b k]
    constructor
    · rintro ⟨h, h2⟩ i hi
      by_cases e : i = k
      · subst e; exact h2
      · exact h i (by omega)
    · intro h
      exact ⟨fun i hi => h i (by omega), h k (by omega)⟩
theorem at_past {l : List UInt8} {k : Nat} (h : l.length ≤ k) : S.at_ l k = 0 := by
  unfold S.at_
  rw [List.getD_eq_getElem?_getD, List.getElem?_eq_none h]
  rfl
theorem acc_next {a b : List UInt8} {k x y z : Nat} (hx : x = acc a b k) (hy : S.at_ a k = y) (hz : S.at_ b k = z) : (x ||| (y ^^^ z)) = acc a b (k + 1) := by
  rw [acc, hx, hy, hz]
theorem acc_left {a b : List UInt8} {k x y : Nat} (hx : x = acc a b k) (hy : S.at_ a k = y) (hz : b.length ≤ k) : (x ||| y) = acc a b (k + 1) := by
  rw [acc, hx, hy, at_past hz, Nat.xor_zero]
theorem acc_right {a b : List UInt8} {k x y : Nat} (hx : x = acc a b k) (hy : S.at_ b k = y) (hz : a.length ≤ k) : (x ||| y) = acc a b (k + 1) := by
  rw [acc, hx, hy, at_past hz, Nat.zero_xor]
theorem at_get {l : List UInt8} {k : Nat} (h : k < l.length) : S.at_ l k = l[k].toNat := by
  unfold S.at_
  rw [List.getD_eq_getElem?_getD, List.getElem?_eq_getElem h]
  rfl
theorem at_drop (l : List UInt8) (m j : Nat) : S.at_ (l.drop m) j = S.at_ l (m + j) := by
  unfold S.at_
  rw [List.getD_eq_getElem?_getD, List.getD_eq_getElem?_getD, List.getElem?_drop]
theorem same_of {a b : List UInt8} (hl : a.length = b.length) (h : ∀ i, i < a.length → S.at_ a i = S.at_ b i) : a = b := by
  apply List.ext_getElem hl
  intro i h1 h2
  have := h i h1
  unfold S.at_ at this
  rw [List.getD_eq_getElem?_getD, List.getD_eq_getElem?_getD, List.getElem?_eq_getElem h1, List.getElem?_eq_getElem h2] at this
  exact UInt8.toNat_inj.1 this
/-- Nothing was collected exactly if they are equal. -/
theorem all_zero (a b : List UInt8) : (acc a b (max a.length b.length) ||| (a.length ^^^ b.length) = 0) ↔ a = b := by
  rw [or_zero, xor_zero, acc_zero]
  constructor
  · rintro ⟨h1, h2⟩
    exact same_of h2 (fun i hi => h1 i (by omega))
  · rintro rfl
    exact ⟨fun _ _ => rfl, rfl⟩
end M
end Go.Proofs.YtgpgnfdbjljljaaDoor
