/- Plain facts on quoted forms: the form of a byte, that a form begins at most one way, and what is read. No program is walked here. -/
import Derived.Test.YtbjfpmklmhgbdaaDoorWordsRead
namespace Go.Proofs.YtbjfpmklmhgbdaaDoor
open Go.RowKit
namespace W
/-- A digit of base 16. -/
def hexD (n : Nat) : UInt8 := if n < 10 then UInt8.ofNat (48 + n) else UInt8.ofNat (87 + n)
/-- The form of a byte between quotes. -/
def escB (c : UInt8) : List UInt8 :=
  if isP (c.toNat : Int) = true then [c] else if letB (c.toNat : Int) = true then [92, UInt8.ofNat (letN (c.toNat : Int)).toNat] else [92, 120, hexD (c.toNat / 16), hexD (c.toNat % 16)]
/-- The forms of bytes, one behind the other. -/
def escS (b : List UInt8) : List UInt8 := b.flatMap escB
/-- What readEscaped returns, of a list of bytes. -/
def atL (l : List UInt8) (i : Nat) : Int := ((l.getD i 0).toNat : Int)
def rdCL (l : List UInt8) : Int := hexI (atL l 2) * 16 + hexI (atL l 3)
def rdL (l : List UInt8) : Int × Int :=
  if isP (atL l 0) = true then (atL l 0, 1) else if atL l 0 ≠ 92 ∨ l.length < 2 then (0, 0)
  else if atL l 1 ≠ 120 then (if rawB (atL l 1) = true then (rawN (atL l 1), 2) else (0, 0))
  else if l.length < 4 then (0, 0) else if hexI (atL l 2) < 0 ∨ hexI (atL l 3) < 0 then (0, 0)
  else if letB (rdCL l) = true ∨ isP (rdCL l) = true then (0, 0) else (rdCL l, 4)
theorem rdP_list (s : ByteArray) : rdP s = rdL s.data.toList := rfl
/-- A fact on all bytes, from a fact on all numbers below 256. -/
theorem all_bytes {P : UInt8 → Prop} (h : ∀ n, n < 256 → P (UInt8.ofNat n)) (c : UInt8) : P c := by
  have := h c.toNat (by have := c.toNat_lt; omega)
  rwa [UInt8.ofNat_toNat] at this
theorem esc_hex : ∀ n, n < 256 → hexI ((hexD ((UInt8.ofNat n).toNat / 16)).toNat : Int) = (((UInt8.ofNat n).toNat / 16 : Nat) : Int) ∧ hexI ((hexD ((UInt8.ofNat n).toNat % 16)).toNat : Int) = (((UInt8.ofNat n).toNat % 16 : Nat) : Int) := by decide +kernel
theorem esc_let : ∀ n, n < 256 → letB ((UInt8.ofNat n).toNat : Int) = true → (UInt8.ofNat (letN ((UInt8.ofNat n).toNat : Int)).toNat) ≠ 120 ∧ rawB ((UInt8.ofNat (letN ((UInt8.ofNat n).toNat : Int)).toNat).toNat : Int) = true ∧ rawN ((UInt8.ofNat (letN ((UInt8.ofNat n).toNat : Int)).toNat).toNat : Int) = ((UInt8.ofNat n).toNat : Int) := by decide +kernel
theorem raw_let : ∀ n, n < 256 → rawB ((UInt8.ofNat n).toNat : Int) = true → letB (rawN ((UInt8.ofNat n).toNat : Int)) = true ∧ isP (rawN ((UInt8.ofNat n).toNat : Int)) = false ∧ 0 ≤ rawN ((UInt8.ofNat n).toNat : Int) ∧ rawN ((UInt8.ofNat n).toNat : Int) < 256 ∧ UInt8.ofNat (letN (rawN ((UInt8.ofNat n).toNat : Int))).toNat = UInt8.ofNat n := by decide +kernel
theorem hex_back : ∀ n, n < 256 → 0 ≤ hexI ((UInt8.ofNat n).toNat : Int) → hexD (hexI ((UInt8.ofNat n).toNat : Int)).toNat = UInt8.ofNat n := by decide +kernel
theorem isP_92 : isP 92 = false := by decide
/-- What is written is read. -/
theorem rd_esc (c : UInt8) (r : List UInt8) : rdL (escB c ++ r) = ((c.toNat : Int), ((escB c).length : Int)) := by
  unfold escB
  by_cases h1 : isP (c.toNat : Int) = true
  · rw [if_pos h1]
    unfold rdL
    simp only [List.cons_append, List.nil_append, atL, List.getD_cons_zero]
    rw [if_pos h1]
    rfl
  · rw [if_neg h1]
    by_cases h2 : letB (c.toNat : Int) = true
    · rw [if_pos h2]
      obtain ⟨e1, e2, e3⟩ := all_bytes (P := fun c => letB (c.toNat : Int) = true → (UInt8.ofNat (letN (c.toNat : Int)).toNat) ≠ 120 ∧ rawB ((UInt8.ofNat (letN (c.toNat : Int)).toNat).toNat : Int) = true ∧ rawN ((UInt8.ofNat (letN (c.toNat : Int)).toNat).toNat : Int) = (c.toNat : Int)) esc_let c h2
      unfold rdL
      simp only [List.cons_append, List.nil_append, atL, List.getD_cons_zero, List.getD_cons_succ]
      rw [if_neg (by rw [show ((UInt8.toNat 92 : Nat) : Int) = 92 from rfl, isP_92]; simp), if_neg (by simp), if_pos (by
        intro e
        apply e1
        apply UInt8.toNat_inj.1
        exact_mod_cast e), if_pos e2, e3]
      rfl
    · rw [if_neg h2]
      obtain ⟨e1, e2⟩ := all_bytes (P := fun c => hexI ((hexD (c.toNat / 16)).toNat : Int) = ((c.toNat / 16 : Nat) : Int) ∧ hexI ((hexD (c.toNat % 16)).toNat : Int) = ((c.toNat % 16 : Nat) : Int)) esc_hex c
      unfold rdL rdCL
      simp only [List.cons_append, List.nil_append, atL, List.getD_cons_zero, List.getD_cons_succ]
      have ec : hexI ((hexD (c.toNat / 16)).toNat : Int) * 16 + hexI ((hexD (c.toNat % 16)).toNat : Int) = (c.toNat : Int) := by rw [e1, e2]; omega
      rw [ec, if_neg (by rw [show ((UInt8.toNat 92 : Nat) : Int) = 92 from rfl, isP_92]; simp), if_neg (by simp), if_neg (by rw [show ((UInt8.toNat 120 : Nat) : Int) = 120 from rfl]; simp), if_neg (by simp), if_neg (by rw [e1, e2]; omega), if_neg (by rintro (h | h); exact h2 h; exact h1 h)]
      rfl
theorem escB_pos (c : UInt8) : 1 ≤ (escB c).length := by unfold escB; split; simp; split <;> simp
theorem escB_ne34 (c : UInt8) (r t : List UInt8) : escB c ++ r ≠ 34 :: t := by
  intro h
  unfold escB at h
  split at h
  · rename_i h1
    injection h with h2 h3
    rw [h2] at h1
    exact absurd h1 (by decide)
  · split at h
    · injection h with h2; exact absurd h2 (by decide)
    · injection h with h2; exact absurd h2 (by decide)
theorem esc_inj {c d : UInt8} {r t : List UInt8} (h : escB c ++ r = escB d ++ t) : c = d ∧ r = t := by
  have h1 := rd_esc c r
  rw [h, rd_esc d t] at h1
  injection h1 with h2 h3
  have e : c = d := UInt8.toNat_inj.1 (by exact_mod_cast h2.symm)
  subst e
  exact ⟨rfl, List.append_cancel_left h⟩
/-- What is read was written. -/
theorem rd_sound {l : List UInt8} {c n : Int} (hl : l ≠ []) (h : rdL l = (c, n)) (hn : n ≠ 0) : ∃ (u : UInt8) (r : List UInt8), l = escB u ++ r ∧ c = (u.toNat : Int) ∧ n = ((escB u).length : Int) := by
  have key : ∀ (u : UInt8) (r : List UInt8), l = escB u ++ r → c = (u.toNat : Int) ∧ n = ((escB u).length : Int) := fun u r e => by
    rw [e, rd_esc] at h
    injection h with h1 h2
    exact ⟨h1.symm, h2.symm⟩
  suffices H : ∃ (u : UInt8) (r : List UInt8), l = escB u ++ r by
    obtain ⟨u, r, e⟩ := H
    exact ⟨u, r, e, key u r e⟩
  match l, hl with
  | x :: r, _ =>
    unfold rdL at h
    simp only [atL, List.getD_cons_zero, List.getD_cons_succ] at h
    by_cases h1 : isP (x.toNat : Int) = true
    · exact ⟨x, r, by unfold escB; rw [if_pos h1]; rfl⟩
    · rw [if_neg h1] at h
      by_cases h2 : ((x.toNat : Nat) : Int) ≠ 92 ∨ (x :: r).length < 2
      · rw [if_pos h2] at h
        injection h with _ h; exact absurd h.symm hn
      · rw [if_neg h2] at h
        have hx : x = 92 := UInt8.toNat_inj.1 (by have : ((x.toNat : Nat) : Int) = 92 := by { refine Classical.byContradiction fun e => h2 (Or.inl e) }
                                                  exact_mod_cast this)
        match r, h2, h with
        | [], h2, _ => exact absurd (Or.inr (by simp)) h2
        | y :: r2, h2, h =>
          simp only [List.getD_cons_zero, List.getD_cons_succ] at h
          by_cases h3 : ((y.toNat : Nat) : Int) ≠ 120
          · rw [if_pos h3] at h
            by_cases h4 : rawB (y.toNat : Int) = true
            · obtain ⟨e1, e2, e3, e4, e5⟩ := all_bytes (P := fun y => rawB (y.toNat : Int) = true → letB (rawN (y.toNat : Int)) = true ∧ isP (rawN (y.toNat : Int)) = false ∧ 0 ≤ rawN (y.toNat : Int) ∧ rawN (y.toNat : Int) < 256 ∧ UInt8.ofNat (letN (rawN (y.toNat : Int))).toNat = y) raw_let y h4
              refine ⟨UInt8.ofNat (rawN (y.toNat : Int)).toNat, r2, ?_⟩
              have eu : ((UInt8.ofNat (rawN (y.toNat : Int)).toNat).toNat : Int) = rawN (y.toNat : Int) := by
                rw [UInt8.toNat_ofNat_of_lt' (by show _ < 256; omega)]; omega
              unfold escB
              rw [eu, if_neg (by rw [e2]; simp), if_pos e1, e5, hx]
              rfl
            · rw [if_neg h4] at h
              injection h with _ h; exact absurd h.symm hn
          · rw [if_neg h3] at h
            have hy : y = 120 := UInt8.toNat_inj.1 (by have : ((y.toNat : Nat) : Int) = 120 := by { refine Classical.byContradiction fun e => h3 e }
                                                       exact_mod_cast this)
            by_cases h5 : (x :: y :: r2).length < 4
            · rw [if_pos h5] at h
              injection h with _ h; exact absurd h.symm hn
            · rw [if_neg h5] at h
              match r2, h5, h with
              | [], h5, _ => exact absurd (by simp) h5
              | [_], h5, _ => exact absurd (by simp) h5
              | p :: q :: r3, _, h =>
                simp only [rdCL, atL, List.getD_cons_zero, List.getD_cons_succ] at h
                by_cases h6 : hexI (p.toNat : Int) < 0 ∨ hexI (q.toNat : Int) < 0
                · rw [if_pos h6] at h
                  injection h with _ h; exact absurd h.symm hn
                · rw [if_neg h6] at h
                  by_cases h7 : letB (hexI (p.toNat : Int) * 16 + hexI (q.toNat : Int)) = true ∨ isP (hexI (p.toNat : Int) * 16 + hexI (q.toNat : Int)) = true
                  · rw [if_pos h7] at h
                    injection h with _ h; exact absurd h.symm hn
                  · have lp := hexI_le (p.toNat : Int)
                    have lq := hexI_le (q.toNat : Int)
                    have bp := all_bytes (P := fun p => 0 ≤ hexI (p.toNat : Int) → hexD (hexI (p.toNat : Int)).toNat = p) hex_back p (by omega)
                    have bq := all_bytes (P := fun p => 0 ≤ hexI (p.toNat : Int) → hexD (hexI (p.toNat : Int)).toNat = p) hex_back q (by omega)
                    refine ⟨UInt8.ofNat (hexI (p.toNat : Int) * 16 + hexI (q.toNat : Int)).toNat, r3, ?_⟩
                    have en : (UInt8.ofNat (hexI (p.toNat : Int) * 16 + hexI (q.toNat : Int)).toNat).toNat = (hexI (p.toNat : Int) * 16 + hexI (q.toNat : Int)).toNat := UInt8.toNat_ofNat_of_lt' (by show _ < 256; omega)
                    have eu : ((UInt8.ofNat (hexI (p.toNat : Int) * 16 + hexI (q.toNat : Int)).toNat).toNat : Int) = hexI (p.toNat : Int) * 16 + hexI (q.toNat : Int) := by rw [en]; omega
                    unfold escB
                    rw [eu, if_neg (fun e => h7 (Or.inr e)), if_neg (fun e => h7 (Or.inl e)), en, show (hexI (p.toNat : Int) * 16 + hexI (q.toNat : Int)).toNat / 16 = (hexI (p.toNat : Int)).toNat from by omega, show (hexI (p.toNat : Int) * 16 + hexI (q.toNat : Int)).toNat % 16 = (hexI (q.toNat : Int)).toNat from by omega, bp, bq, hx, hy]
                    rfl
/-- What is written in quotes begins one way. -/
theorem esc_split : ∀ (bs b t r : List UInt8), escS bs ++ t = escS b ++ 34 :: r → ∃ b2, b = bs ++ b2 ∧ t = escS b2 ++ 34 :: r
  | [], b, t, r, h => ⟨b, rfl, h⟩
  | c :: bs, [], t, r, h => by
    simp only [escS, List.flatMap_cons, List.flatMap_nil, List.nil_append, List.append_assoc] at h
    exact absurd h (escB_ne34 c _ r)
  | c :: bs, d :: b, t, r, h => by
    simp only [escS, List.flatMap_cons, List.append_assoc] at h
    obtain ⟨rfl, h2⟩ := esc_inj h
    obtain ⟨b2, rfl, e⟩ := esc_split bs b t r h2
    exact ⟨b2, rfl, e⟩
theorem escS_snoc (b : List UInt8) (c : UInt8) : escS (b ++ [c]) = escS b ++ escB c := by simp [escS]
/-- The quoted form that a string begins with is that of b, before r. -/
def Begins (l b r : List UInt8) : Prop := l = 34 :: (escS b ++ 34 :: r)
theorem begins_one {l b r b' r' : List UInt8} (h : Begins l b r) (h' : Begins l b' r') : b = b' ∧ r = r' := by
  unfold Begins at h h'
  rw [h] at h'
  injection h' with _ h'
  obtain ⟨b2, e1, e2⟩ := esc_split b b' _ r' h'
  match b2, e1, e2 with
  | [], e1, e2 =>
    simp [escS] at e1 e2
    exact ⟨e1.symm, e2⟩
  | d :: b2, _, e2 =>
    simp only [escS, List.flatMap_cons, List.append_assoc] at e2
    exact absurd e2.symm (escB_ne34 d _ r)
end W
end Go.Proofs.YtbjfpmklmhgbdaaDoor
