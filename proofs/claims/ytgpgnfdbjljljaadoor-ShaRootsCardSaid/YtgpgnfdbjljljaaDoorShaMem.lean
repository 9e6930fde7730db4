/- Slices of bytes: what reads as a list, what a call owns, and the string of either. -/
import Derived.Test.YtgpgnfdbjljljaaDoorShaConst
import Derived.Laws.AppendOwnNone
namespace Go.Proofs.YtgpgnfdbjljljaaDoor
open Go.RowKit
theorem info_u8 : (Tryd.prog.info? 5).map (fun i => (i.zero, i.size, i.bytes)) = some (some (.int .u8 0), 1, 1) := by kernel_rfl
theorem byteV_one (l : List UInt8) : ∀ u ∈ l.map S.byteV, u.oneCell' = true := by
  intro u hu
  obtain ⟨c, _, rfl⟩ := List.mem_map.1 hu
  rfl
/-- The slice '.slice A l.length c' reads as the bytes l, and lies below block B. -/
structure BytesIn (w : World) (B : Nat) (A : Option Addr) (c : Nat) (l : List UInt8) : Prop where
  le : l.length ≤ c
  cap : c ≤ maxLen
  none_ : A = none → l = [] ∧ c = 0
  cells : ∀ ad, A = some ad → ∀ j u, l[j]? = some u → ad.block < B ∧ w.cell? (ad.add j) = some (S.byteV u)
theorem add_block (a : Addr) (n : Nat) : (a.add n).block = a.block := by unfold Addr.add; split <;> rfl
theorem add_add (a : Addr) (i j : Nat) : (a.add i).add j = a.add (i + j) := by
  unfold Addr.add
  by_cases hi : i = 0 <;> by_cases hj : j = 0 <;> simp [hi, hj, Nat.add_assoc]
namespace BytesIn
theorem below {w w' : World} {B : Nat} {A : Option Addr} {c : Nat} {l : List UInt8} (h : BytesIn w B A c l) (hb : Below B w w') : BytesIn w' B A c l :=
  ⟨h.le, h.cap, h.none_, fun ad e j u hu => ⟨(h.cells ad e j u hu).1, by
    rw [hb.cell (by rw [add_block]; exact (h.cells ad e j u hu).1)]
    exact (h.cells ad e j u hu).2⟩⟩
theorem drewN {w : World} {B : Nat} {A : Option Addr} {c : Nat} {l : List UInt8} (h : BytesIn w B A c l) (n : Nat) : BytesIn (w.drewN n) B A c l := ⟨h.le, h.cap, h.none_, h.cells⟩
theorem more {w : World} {B B' : Nat} {A : Option Addr} {c : Nat} {l : List UInt8} (h : BytesIn w B A c l) (hB : B ≤ B') : BytesIn w B' A c l :=
  ⟨h.le, h.cap, h.none_, fun ad e j u hu => ⟨Nat.lt_of_lt_of_le (h.cells ad e j u hu).1 hB, (h.cells ad e j u hu).2⟩⟩
theorem nil_ (w : World) (B : Nat) : BytesIn w B none 0 [] := ⟨Nat.le_refl _, by unfold maxLen; omega, fun _ => ⟨rfl, rfl⟩, fun _ e => by cases e⟩
theorem cut {w : World} {B : Nat} {A : Option Addr} {c : Nat} {l : List UInt8} (h : BytesIn w B A c l) {k : Nat} (hk : k ≤ l.length) :
    BytesIn w B (if c = k then A else A.map (·.add k)) (c - k) (l.drop k) := by
  refine ⟨by rw [List.length_drop]; have := h.le; omega, by have := h.cap; omega, fun e => ?_, fun ad e => ?_⟩
  · have hA : A = none := by
      split at e
      · exact e
      · cases A with
        | none => rfl
        | some a => cases e
    obtain ⟨rfl, rfl⟩ := h.none_ hA
    exact ⟨by simp, by omega⟩
  · split at e
    · rename_i hc
      have hl := h.le
      have hd : l.drop k = [] := List.drop_eq_nil_of_le (by omega)
      rw [hd]
      intro j u hu
      simp at hu
    · cases A with
      | none => cases e
      | some a =>
        have e' : a.add k = ad := by simpa using e
        subst e'
        intro j u hu
        rw [add_add, add_block]
        exact h.cells a rfl _ u (by rw [← hu, List.getElem?_drop])
theorem at_ {w : World} {B : Nat} {A : Option Addr} {c : Nat} {l : List UInt8} (h : BytesIn w B A c l) {k : Nat} (hk : k < l.length) :
    ∃ ad, A = some ad ∧ w.cell? (ad.add k) = some (.int .u8 (l[k].toNat : Int)) := by
  cases A with
  | none => obtain ⟨rfl, _⟩ := h.none_ rfl; simp at hk
  | some ad => exact ⟨ad, rfl, (h.cells ad rfl k _ (List.getElem?_eq_getElem hk)).2⟩
theorem src {w : World} {B : Nat} {A : Option Addr} {c : Nat} {l : List UInt8} (h : BytesIn w B A c l) (ad : Addr) (e : A = some ad) (j : Nat) (u : Value) (hj : (l.map S.byteV)[j]? = some u) : w.cell? (ad.add j) = some u := by
  obtain ⟨x, hx, rfl⟩ : ∃ x, l[j]? = some x ∧ S.byteV x = u := by simpa using hj
  exact (h.cells ad e j x hx).2
theorem none_len {w : World} {B : Nat} {A : Option Addr} {c : Nat} {l : List UInt8} (h : BytesIn w B A c l) (e : A = none) : l.length = 0 ∧ c = 0 := by
  obtain ⟨h1, h2⟩ := h.none_ e
  exact ⟨by simp [h1], h2⟩
theorem of_own {w : World} {base : Nat} {A : Option Addr} {n c : Nat} {l : List UInt8} (h : w.ownsRow base 5 1 (.slice A n c) n (l.map S.byteV)) : BytesIn w w.heap.size A c l := by
  have hl : l.length = n := by have := h.1; simpa using this
  rcases h.2 with ⟨h1, h2⟩ | ⟨g, cap, cur, h1, _, h3, h4, h5, _⟩
  · injection h1 with e1 e2 e3
    subst e1 e2 e3
    rw [List.length_eq_zero_iff.1 hl]
    exact nil_ _ _
  · injection h1 with e1 e2 e3
    subst e1 e3
    refine ⟨by omega, h5, fun e => (by cases e), fun ad e => ?_⟩
    injection e with e
    subst e
    intro j u hu
    exact ⟨(Array.getElem?_eq_some_iff.1 h3).1, h.cells (g := g) rfl j (S.byteV u) (by rw [List.getElem?_map, hu]; rfl)⟩
end BytesIn
theorem own_below {w w1 : World} {base : Nat} {e : TypeId} {size : Nat} {v : Value} {n : Nat} {xs : List Value} (h : w.ownsRow base e size v n xs) (hb : Below w.heap.size w w1) : w1.ownsRow base e size v n xs := by
  refine ⟨h.1, ?_⟩
  rcases h.2 with h | ⟨g, cap, cur, h1, h2, h3, h4⟩
  · exact Or.inl h
  · exact Or.inr ⟨g, cap, cur, h1, h2, (hb.block g (Array.getElem?_eq_some_iff.1 h3).1).trans h3, h4⟩
theorem own_base {w : World} {base base' : Nat} {e : TypeId} {size : Nat} {v : Value} {n : Nat} {xs : List Value} (h : w.ownsRow base e size v n xs) (hb : base' ≤ base) : w.ownsRow base' e size v n xs := by
  refine ⟨h.1, ?_⟩
  rcases h.2 with h | ⟨g, cap, cur, h1, h2, h3⟩
  · exact Or.inl h
  · exact Or.inr ⟨g, cap, cur, h1, by omega, h3⟩
theorem conv_none (w : World) (c : Nat) : (convert 33 9 (.slice none 0 c)).run Tryd.prog w = .ok (.string ⟨#[]⟩) w := by
  rw [run_convert_bytes_string w 33 9 5 none 0 c Tryd.underlying33 Tryd.underlying5 Tryd.underlying9]
  rfl
/-- The string of a slice that reads as a list. -/
theorem conv_in {w : World} {B : Nat} {A : Option Addr} {c : Nat} {l : List UInt8} (h : BytesIn w B A c l) : (convert 33 9 (.slice A l.length c)).run Tryd.prog w = .ok (.string ⟨l.toArray⟩) w := by
  cases A with
  | none =>
    obtain ⟨rfl, rfl⟩ := h.none_ rfl
    exact conv_none w 0
  | some ad =>
    refine run_convert_bytes_back w 33 9 5 ad c l Tryd.underlying33 Tryd.underlying5 Tryd.underlying9 (fun j hj => ?_)
    exact (h.cells ad rfl j _ (List.getElem?_eq_getElem hj)).2
/-- The string of an owned row of bytes. -/
theorem conv_own {w : World} {base : Nat} {v : Value} {bs : List UInt8} (h : w.ownsRow base 5 1 v bs.length (bs.map S.byteV)) : (convert 33 9 v).run Tryd.prog w = .ok (.string ⟨bs.toArray⟩) w := by
  rcases h.2 with ⟨h1, h2⟩ | ⟨g, cap, cur, h1, _⟩
  · rw [h1, List.length_eq_zero_iff.1 h2]
    exact conv_none w 0
  · rw [h1]
    rw [h1] at h
    exact conv_in (BytesIn.of_own h)

theorem be_len (N k : Nat) : (S.be N k).length = k := by induction k with
  | zero => rfl
  | succ k ih => simp [S.be, ih]
theorem ofNat_eq {a b : Nat} (h : a % 256 = b % 256) : UInt8.ofNat a = UInt8.ofNat b := by
  apply UInt8.toNat_inj.1
  simp only [UInt8.toNat_ofNat']
  exact h
/-- One byte is appended to an owned row. -/
theorem push_byte {ops : Array Oper} {rest : List Oper} {o : Oper} {a : Act} {Q : Exit → Act → World → Prop} (w w0 : World) (z : Int) (hgd : o.guard = none) (s x : Operand)
    (ho : o.op = .call { callee := .builtin .append, args := #[s, x], argTypes := #[33, 33] })
    (B : Nat) (v : Value) (xs : List UInt8) (hs : a.eval s = v) (hx : a.eval x = .slice (some ⟨w0.heap.size, 0, none⟩) 1 1) (hown : w0.ownsRow B 5 1 v xs.length (xs.map S.byteV))
    (hB : B ≤ w.heap.size) (hbel : Below B w w0) (h0 : 0 ≤ z) (h1 : z < 256) (hl : xs.length ≤ 1000000)
    (h : ∀ v' w', w'.ownsRow B 5 1 v' (xs ++ [UInt8.ofNat z.toNat]).length ((xs ++ [UInt8.ofNat z.toNat]).map S.byteV) → Below B w w' → wpList Tryd.prog ops Q rest (a.put o.dst v') w') :
    wpList Tryd.prog ops Q (o :: rest) a (w0.alloc (.cells #[.int .u8 z] 5)) := by
  obtain ⟨i0, hi, hz0, hz1, hz2⟩ := info_parts info_u8
  have hB0 : B ≤ w0.heap.size := Nat.le_trans hB hbel.size
  have hz : (Value.int .u8 z) = S.byteV (UInt8.ofNat z.toNat) := by
    unfold S.byteV
    have e : ((UInt8.ofNat z.toNat).toNat : Int) = z := by rw [UInt8.toNat_ofNat']; omega
    rw [e]
  refine wpList_append_own _ hgd s x 33 ho B 5 i0 (.int .u8 0) 1 1 Tryd.underlying33 hi hz0 hz1 hz2 rfl (by decide) v _ _ hs (hown.alloc _) ⟨w0.heap.size, 0, none⟩ 1 1 [S.byteV (UInt8.ofNat z.toNat)] hx rfl ?_ ?_ ?_ ?_ ?_ ?_
  · intro j u hj
    match j, hj with
    | 0, hj => simp at hj; subst hj; simp [Addr.add, hz]
  · intro u hu; simp at hu; subst hu; rfl
  · unfold maxLen; omega
  · omega
  · simp; omega
  · intro v' w' hown' hg _
    refine h v' w' (by simpa using hown') ?_
    exact ((hbel.alloc hB0 _).grown hg (by simp; omega) (fun k hk => (hown.lt k hk).1))
/-- Bytes that read as a list are appended to an owned row. -/
theorem push_bytes {ops : Array Oper} {rest : List Oper} {o : Oper} {a : Act} {Q : Exit → Act → World → Prop} (w w0 : World) (hgd : o.guard = none) (s x : Operand)
    (ho : o.op = .call { callee := .builtin .append, args := #[s, x], argTypes := #[33, 33] })
    (B : Nat) (v : Value) (xs : List UInt8) (hs : a.eval s = v) (hown : w0.ownsRow B 5 1 v xs.length (xs.map S.byteV)) (Bs : Nat) (A : Option Addr) (c n : Nat) (l : List UInt8) (hn : n = l.length) (hx : a.eval x = .slice A n c) (hin : BytesIn w0 Bs A c l)
    (hB : B ≤ w.heap.size) (hbel : Below B w w0) (hl : xs.length ≤ 1000000) (hl2 : l.length ≤ 1000000)
    (h : ∀ v' w', w'.ownsRow B 5 1 v' (xs ++ l).length ((xs ++ l).map S.byteV) → Below B w w' → w0.grownBy w' v.ownBlock → wpList Tryd.prog ops Q rest (a.put o.dst v') w') :
    wpList Tryd.prog ops Q (o :: rest) a w0 := by
  obtain ⟨i0, hi, hz0, hz1, hz2⟩ := info_parts info_u8
  have hB0 : B ≤ w0.heap.size := Nat.le_trans hB hbel.size
  subst hn
  cases A with
  | none =>
    obtain ⟨rfl, rfl⟩ := hin.none_ rfl
    refine wpList_append_own_none hgd s x 33 ho B 5 i0 1 Tryd.underlying33 hi v _ _ hs hown (by simpa using hx) ?_
    exact h v w0 (by simpa using hown) hbel (World.grownBy.refl w0 _)
  | some ad =>
    refine wpList_append_own _ hgd s x 33 ho B 5 i0 (.int .u8 0) 1 1 Tryd.underlying33 hi hz0 hz1 hz2 rfl (by decide) v _ _ hs hown ad l.length c (l.map S.byteV) hx (by simp) (fun j u hj => hin.src ad rfl j u hj) (byteV_one l) (by unfold maxLen; omega) (by omega) hB0 ?_
    intro v' w' hown' hg _
    exact h v' w' (by simpa using hown') (hbel.grown hg hB0 (fun k hk => (hown.lt k hk).1)) hg
theorem BytesIn.made {w : World} {l : List UInt8} {cs : Array Value} (h : cs = (l.map S.byteV).toArray) (hl : l.length ≤ 1000) : BytesIn (w.alloc (.cells cs 5)) (w.alloc (.cells cs 5)).heap.size (some ⟨w.heap.size, 0, none⟩) l.length l := by
  subst h
  refine ⟨Nat.le_refl _, by unfold maxLen; omega, fun e => (by cases e), fun ad e => ?_⟩
  injection e with e
  subst e
  intro j u hu
  refine ⟨by simp, ?_⟩
  have hadd : (⟨w.heap.size, 0, none⟩ : Addr).add j = ⟨w.heap.size, j, none⟩ := by unfold Addr.add; split <;> simp_all
  rw [hadd, cell_of_row _ w.heap.size j _ 5 (0, 0) (heap_alloc_new w _)]
  rw [List.getElem?_toArray, List.getElem?_map, hu]; rfl
end Go.Proofs.YtgpgnfdbjljljaaDoor
