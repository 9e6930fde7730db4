/- The contract of the reference's Parse. -/
import Derived.Test.YteeibhooppmbmaaDoorTmParse
namespace Go.Proofs.YteeibhooppmbmaaDoor
open Go.RowKit
set_option linter.unusedSimpArgs false
set_option maxRecDepth 100000
theorem T.len_of {l : List UInt8} {m : Nat} (hm : l.length = m) (h : m < 10 ∨ 24 < m) : ∀ t, ¬ TextOf l t :=
  no_text fun N s => by have := s.len; have := s.n1; have := s.n15; omega
theorem T.shape_N {l : List UInt8} {N M : Nat} (hm : l.length = N + 9) (s : Shape l M) : M = N := by have := s.len; omega
theorem RParse_len (l : List UInt8) (m : Nat) (hm : l.length = m) (hl : m ≤ 1000) (w : World) (h : m < 10 ∨ 24 < m) :
    Calls Tryd.prog 34 #[.string ⟨l.toArray⟩] w (ParsePost l w) := by
  have HF := Lib.hid (parse_no (w := w) (T.len_of hm h) (Below.refl _ _))
  obtain ⟨S, hS⟩ : ∃ S, S = (⟨l.toArray⟩ : ByteArray) := ⟨_, rfl⟩
  have hsz : S.size = m := by rw [hS]; show l.toArray.size = m; simp [hm]
  have hw : IntKind.i64.wrap ((m : Int) - 9) = (m : Int) - 9 := IntWalk.i64_in _ (by omega)
  rw [← hS]
  clear hS hm
  by_cases h1 : m < 10
  · have g1 : (m : Int) - 9 < 1 := by omega
    clear h h1
    go_enter Tryd.func34, Tryd.ntmps34
    go_wp2_with fail
    go_ret2
    exact HF.out
  · have g1 : ¬ (m : Int) - 9 < 1 := by omega
    have g2 : (15 : Int) < (m : Int) - 9 := by omega
    clear h h1
    go_enter Tryd.func34, Tryd.ntmps34
    go_wp2_with fail
    go_ret2
    exact HF.out
namespace T
/-- The two digits behind place p, of which those before place k have been read. -/
def cv (l : List UInt8) (p k : Nat) : Int := if k ≤ p + 1 then 0 else if k = p + 2 then dg l (p + 1) else 10 * dg l (p + 1) + dg l (p + 2)
theorem cv_same {l : List UInt8} {p k : Nat} (h : k ≤ p ∨ p + 3 ≤ k) : cv l p (k + 1) = cv l p k := by
  unfold cv
  rcases h with h | h
  · rw [if_pos (by omega), if_pos (by omega)]
  · rw [if_neg (by omega), if_neg (by omega), if_neg (by omega), if_neg (by omega)]
theorem cv_one {l : List UInt8} {p : Nat} : cv l p (p + 1) = 0 ∧ cv l p (p + 1 + 1) = dg l (p + 1) := by
  unfold cv
  exact ⟨if_pos (by omega), by rw [if_neg (by omega), if_pos (by omega)]⟩
theorem cv_two {l : List UInt8} {p : Nat} : cv l p (p + 2) = dg l (p + 1) ∧ cv l p (p + 2 + 1) = 10 * dg l (p + 1) + dg l (p + 2) := by
  unfold cv
  exact ⟨by rw [if_neg (by omega), if_pos (by omega)], by rw [if_neg (by omega), if_neg (by omega)]⟩
theorem cv_start (l : List UInt8) (p : Nat) : cv l p 0 = 0 := if_pos (by omega)
theorem cv_end {l : List UInt8} {p k : Nat} (h : p + 3 ≤ k) : cv l p k = 10 * dg l (p + 1) + dg l (p + 2) := by
  unfold cv
  rw [if_neg (by omega), if_neg (by omega)]
theorem numN_lt : ∀ (l : List UInt8) (a : Nat), (∀ b ∈ l, digB b) → numN a l < (a + 1) * 10 ^ l.length
  | [], a, _ => by
    show a < (a + 1) * 10 ^ 0
    rw [Nat.pow_zero]
    omega
  | b :: l, a, h => by
    have h1 := h b (by simp)
    unfold digB at h1
    have h2 := numN_lt l (a * 10 + (b.toNat - 48)) (fun c hc => h c (by simp [hc]))
    have h3 : (a * 10 + (b.toNat - 48) + 1) * 10 ^ l.length ≤ ((a + 1) * 10) * 10 ^ l.length := Nat.mul_le_mul_right _ (by omega)
    show numN (a * 10 + (b.toNat - 48)) l < _
    rw [List.length_cons, Nat.pow_succ, Nat.mul_comm (10 ^ l.length) 10, ← Nat.mul_assoc]
    exact Nat.lt_of_lt_of_le h2 h3
theorem numN_take {l : List UInt8} {k : Nat} (h : k < l.length) : numN 0 (l.take (k + 1)) = numN 0 (l.take k) * 10 + (bt_ l k - 48) := by
  rw [(List.take_append_getElem h).symm, numN_append]
  unfold bt_
  rw [List.getD_eq_getElem?_getD, List.getElem?_eq_getElem h]
  rfl
theorem days_lt {l : List UInt8} {N k : Nat} (hN : N ≤ 15) (hk : k ≤ N) (hl : N < l.length) (hd : ∀ p, p < k → p ≠ N → p ≠ N + 3 → p ≠ N + 6 → 48 ≤ bt_ l p ∧ bt_ l p ≤ 57) : numN 0 (l.take k) < 1000000000000000 := by
  have h1 := numN_lt (l.take k) 0 (fun b hb => by
    obtain ⟨p, hp, rfl⟩ := List.mem_iff_getElem.1 hb
    rw [List.length_take] at hp
    have := hd p (by omega) (by omega) (by omega) (by omega)
    unfold bt_ at this
    rw [List.getD_eq_getElem?_getD, List.getElem?_eq_getElem (by omega : p < l.length)] at this
    rw [List.getElem_take]
    exact this)
  have h2 : (l.take k).length ≤ 15 := by rw [List.length_take]; omega
  have h3 : (10 : Nat) ^ (l.take k).length ≤ 10 ^ 15 := Nat.pow_le_pow_right (by omega) h2
  have h4 : (10 : Nat) ^ 15 = 1000000000000000 := by decide
  rw [h4] at h3
  rw [Nat.zero_add, Nat.one_mul] at h1
  exact Nat.lt_of_lt_of_le h1 h3
end T
/-- The state of the reference's reading: k bytes have been read. -/
structure RI (l : List UInt8) (N : Nat) (k : Nat) (w wr : World) : Prop where
  cells : wr.heap[w.heap.size]? = some (.cells #[.int .i64 (T.cv l N k), .int .i64 (T.cv l (N + 3) k), .int .i64 (T.cv l (N + 6) k), .int .i64 0] 60 (0, 0))
  bel : Below w.heap.size w wr
  digs : ∀ p, p < k → p ≠ N → p ≠ N + 3 → p ≠ N + 6 → 48 ≤ T.bt_ l p ∧ T.bt_ l p ≤ 57
theorem RI.skip {l : List UInt8} {N k : Nat} {w wr : World} (h : RI l N k w wr) (hk : k = N ∨ k = N + 3 ∨ k = N + 6) : RI l N (k + 1) w wr :=
  ⟨by rw [T.cv_same (by omega), T.cv_same (by omega), T.cv_same (by omega)]; exact h.cells, h.bel, fun p hp h1 h2 h3 => h.digs p (by omega) h1 h2 h3⟩
theorem RI.day {l : List UInt8} {N k : Nat} {w wr : World} (h : RI l N k w wr) (hk : k < N) (hd : 48 ≤ T.bt_ l k ∧ T.bt_ l k ≤ 57) : RI l N (k + 1) w wr :=
  ⟨by rw [T.cv_same (by omega), T.cv_same (by omega), T.cv_same (by omega)]; exact h.cells, h.bel, fun p hp h1 h2 h3 => by
    by_cases e : p = k
    · rw [e]; exact hd
    · exact h.digs p (by omega) h1 h2 h3⟩
theorem setCell_block' {Wd : World} {b i : Nat} {cs : Array Value} {t : TypeId} {fr : Nat × Nat} (v : Value) (h : Wd.heap[b]? = some (.cells cs t fr)) : (Wd.setCell ⟨b, i, none⟩ v).heap[b]? = some (.cells (cs.setIfInBounds i v) t fr) := setCell_block v h
theorem RI.digs_on {l : List UInt8} {N k : Nat} {w wr : World} (h : RI l N k w wr) (hd : 48 ≤ T.bt_ l k ∧ T.bt_ l k ≤ 57) : ∀ p, p < k + 1 → p ≠ N → p ≠ N + 3 → p ≠ N + 6 → 48 ≤ T.bt_ l p ∧ T.bt_ l p ≤ 57 := fun p hp h1 h2 h3 => by
  by_cases e : p = k
  · rw [e]; exact hd
  · exact h.digs p (by omega) h1 h2 h3
theorem RI.put0 {l : List UInt8} {N k : Nat} {w wr : World} {V : Int} (h : RI l N k w wr) (hk : k = N + 1 ∨ k = N + 2) (hd : 48 ≤ T.bt_ l k ∧ T.bt_ l k ≤ 57) (hV : T.cv l N (k + 1) = V) : RI l N (k + 1) w (wr.setCell ⟨w.heap.size, 0, none⟩ (.int .i64 V)) :=
  ⟨by rw [setCell_block' _ h.cells, ← hV, T.cv_same (p := N + 3) (by omega), T.cv_same (p := N + 6) (by omega)]; rfl, h.bel.setCell (p := ⟨w.heap.size, 0, none⟩) (Nat.le_refl _) _, h.digs_on hd⟩
theorem RI.put1 {l : List UInt8} {N k : Nat} {w wr : World} {V : Int} (h : RI l N k w wr) (hk : k = N + 4 ∨ k = N + 5) (hd : 48 ≤ T.bt_ l k ∧ T.bt_ l k ≤ 57) (hV : T.cv l (N + 3) (k + 1) = V) : RI l N (k + 1) w (wr.setCell ⟨w.heap.size, 1, none⟩ (.int .i64 V)) :=
  ⟨by rw [setCell_block' _ h.cells, ← hV, T.cv_same (p := N) (by omega), T.cv_same (p := N + 6) (by omega)]; rfl, h.bel.setCell (p := ⟨w.heap.size, 1, none⟩) (Nat.le_refl _) _, h.digs_on hd⟩
theorem RI.put2 {l : List UInt8} {N k : Nat} {w wr : World} {V : Int} (h : RI l N k w wr) (hk : k = N + 7 ∨ k = N + 8) (hd : 48 ≤ T.bt_ l k ∧ T.bt_ l k ≤ 57) (hV : T.cv l (N + 6) (k + 1) = V) : RI l N (k + 1) w (wr.setCell ⟨w.heap.size, 2, none⟩ (.int .i64 V)) :=
  ⟨by rw [setCell_block' _ h.cells, ← hV, T.cv_same (p := N) (by omega), T.cv_same (p := N + 3) (by omega)]; rfl, h.bel.setCell (p := ⟨w.heap.size, 2, none⟩) (Nat.le_refl _) _, h.digs_on hd⟩
/-- The number in a cell before a digit is read, and after. -/
theorem RI.step {l : List UInt8} {N k p : Nat} {w wr : World} (h : RI l N k w wr) (hp : p = N ∨ p = N + 3 ∨ p = N + 6) (hk : k = p + 1 ∨ k = p + 2) : 0 ≤ T.cv l p k ∧ T.cv l p k ≤ 9 ∧ T.cv l p (k + 1) = 10 * T.cv l p k + T.dg l k := by
  rcases hk with rfl | rfl
  · rw [T.cv_one.1, T.cv_one.2]
    omega
  · have hd := h.digs (p + 1) (by omega) (by omega) (by omega) (by omega)
    have e1 := T.cv_two (l := l) (p := p)
    have e2 : T.dg l (p + 1) = (T.bt_ l (p + 1) : Int) - 48 := rfl
    rw [e1.1, e1.2]
    omega
theorem RI.cell {l : List UInt8} {N k : Nat} {w wr : World} (h : RI l N k w wr) : wr.cell? ⟨w.heap.size, 0, none⟩ = some (.int .i64 (T.cv l N k)) ∧ wr.cell? ⟨w.heap.size, 1, none⟩ = some (.int .i64 (T.cv l (N + 3) k)) ∧ wr.cell? ⟨w.heap.size, 2, none⟩ = some (.int .i64 (T.cv l (N + 6) k)) ∧ (∀ j, wr.frozen? ⟨w.heap.size, j, none⟩ = false) := by
  refine ⟨?_, ?_, ?_, fun j => ?_⟩
  · rw [cell_of_row _ _ _ _ _ _ h.cells]; rfl
  · rw [cell_of_row _ _ _ _ _ _ h.cells]; rfl
  · rw [cell_of_row _ _ _ _ _ _ h.cells]; rfl
  · simp [World.frozen?, h.cells]
set_option maxHeartbeats 4000000 in
theorem RParse_form (l : List UInt8) (N : Nat) (hm : l.length = N + 9) (n1 : 1 ≤ N) (n15 : N ≤ 15) (w : World) :
    Calls Tryd.prog 34 #[.string ⟨l.toArray⟩] w (ParsePost l w) := by
  obtain ⟨S, hS⟩ : ∃ S, S = (⟨l.toArray⟩ : ByteArray) := ⟨_, rfl⟩
  have hsz : S.size = N + 9 := by rw [hS]; show l.toArray.size = _; simp [hm]
  have HAt : Hid (∀ p (h : p < S.size), ((S[p]'h).toNat : Int) = (T.bt_ l p : Int)) := Lib.hid (fun p h => by
    subst hS
    have hp : p < l.length := by rw [hm, ← hsz]; exact h
    have e : (⟨l.toArray⟩ : ByteArray)[p] = l[p] := by show l.toArray[p] = l[p]; simp
    rw [e]
    unfold T.bt_
    rw [List.getD_eq_getElem?_getD, List.getElem?_eq_getElem hp]
    rfl)
  have HSl := Lib.hid hS
  have Hm := Lib.hid hm
  obtain ⟨m, hmm⟩ : ∃ m, N + 9 = m := ⟨_, rfl⟩
  obtain ⟨N3, hN3⟩ : ∃ N3, N + 3 = N3 := ⟨_, rfl⟩
  obtain ⟨N6, hN6⟩ : ∃ N6, N + 6 = N6 := ⟨_, rfl⟩
  have hw : IntKind.i64.wrap ((m : Int) - 9) = (N : Int) := by rw [IntWalk.i64_in _ (by omega)]; omega
  have hw3 : IntKind.i64.wrap ((N : Int) + 3) = (N3 : Int) := by rw [IntWalk.i64_in _ (by omega)]; omega
  have hw6 : IntKind.i64.wrap ((N : Int) + 6) = (N6 : Int) := by rw [IntWalk.i64_in _ (by omega)]; omega
  have b0 : N < S.size := by omega
  have b3 : N3 < S.size := by omega
  have b6 : N6 < S.size := by omega
  have g1 : ¬ (N : Int) < 1 := by omega
  have g2 : ¬ (15 : Int) < (N : Int) := by omega
  have i0 : (N : Int) < (m : Int) := by omega
  have i3 : (N3 : Int) < (m : Int) := by omega
  have i6 : (N6 : Int) < (m : Int) := by omega
  have hm24 : m ≤ 24 := by omega
  have Hmm := Lib.hid hmm
  have HN3 := Lib.hid hN3
  have HN6 := Lib.hid hN6
  rw [hmm] at hsz
  have HNo : Hid (∀ W, Below w.heap.size w W → (∀ s, T.Shape l N → s = 0) → ParsePost l w (.returned (.tuple #[.int .i64 0, .int .i64 6])) W) := Lib.hid (fun W hb h => parse_no (T.no_text fun M s => by
    obtain rfl := T.shape_N Hm.out s
    have := h 1 s
    omega) hb)
  rw [← hS]
  clear hS hm hmm hN3 hN6
  by_cases k0 : T.bt_ l N = 100
  · by_cases k3 : T.bt_ l N3 = 58
    · by_cases k6 : T.bt_ l N6 = 58
      · have f0 : (((S[N]'b0).toNat : Int) != 100) = false := by rw [HAt.out N b0, k0]; rfl
        have f3 : (((S[N3]'b3).toNat : Int) != 58) = false := by rw [HAt.out N3 b3, k3]; rfl
        have f6 : (((S[N6]'b6).toNat : Int) != 58) = false := by rw [HAt.out N6 b6, k6]; rfl
        have K0 := Lib.hid k0
        have K3 := Lib.hid k3
        have K6 := Lib.hid k6
        clear k0 k3 k6
        go_enter Tryd.func34, Tryd.ntmps34
        go_wp2_with fail
        go_loopw [5, 7] (fun d i wr => ∃ k : Nat, k ≤ m ∧ i = .int .i64 k ∧ d = .int .i64 (T.numN 0 (l.take (min k N)) : Nat) ∧ Hid (RI l N k w wr)) (fun _ i _ => m - (intOf i).toNat)
        case atStart => exact ⟨0, Nat.zero_le _, rfl, rfl, Lib.hid ⟨by rw [T.cv_start, T.cv_start, T.cv_start]; exact World.alloc_heap_new w _, below_new _ _, fun p hp => by omega⟩⟩
        case round =>
          obtain ⟨k, hk, rfl, rfl, hI⟩ := hrel
          by_cases hlt : k < m
          · have hkS : k < S.size := by omega
            have hxk := HAt.out k hkS
            by_cases hsep : k = N ∨ k = N3 ∨ k = N6
            · have hI2 : Hid (RI l N (k + 1) w wr) := Lib.hid (hI.out.skip (by have := HN3.out; have := HN6.out; omega))
              have hmin : min (k + 1) N = min k N := by have := HN3.out; have := HN6.out; omega
              have HMin := Lib.hid hmin
              have HSep := Lib.hid hsep
              clear hmin hsep hxk
              by_cases h0 : k = N
              · have q0 : ((k : Int) == (N : Int)) = true := by rw [beq_iff_eq]; omega
                have Q := Lib.hid h0
                clear h0
                go_wp2_with fail
                go_roundw
                case rel => exact ⟨k + 1, by omega, by go_num, by rw [HMin.out], hI2⟩
                case measure => simp [intOf]; omega
              · have q0 : ((k : Int) == (N : Int)) = false := by rw [beq_eq_false_iff_ne]; omega
                by_cases h3 : k = N3
                · have q3 : ((k : Int) == (N3 : Int)) = true := by rw [beq_iff_eq]; omega
                  clear h0 h3
                  go_wp2_with fail
                  go_roundw
                  case rel => exact ⟨k + 1, by omega, by go_num, by rw [HMin.out], hI2⟩
                  case measure => simp [intOf]; omega
                · have q3 : ((k : Int) == (N3 : Int)) = false := by rw [beq_eq_false_iff_ne]; omega
                  have q6 : ((k : Int) == (N6 : Int)) = true := by rw [beq_iff_eq]; have := HSep.out; omega
                  clear h0 h3
                  go_wp2_with fail
                  go_roundw
                  case rel => exact ⟨k + 1, by omega, by go_num, by rw [HMin.out], hI2⟩
                  case measure => simp [intOf]; omega
            · have q0 : ((k : Int) == (N : Int)) = false := by rw [beq_eq_false_iff_ne]; omega
              have q3 : ((k : Int) == (N3 : Int)) = false := by rw [beq_eq_false_iff_ne]; omega
              have q6 : ((k : Int) == (N6 : Int)) = false := by rw [beq_eq_false_iff_ne]; omega
              have HSep := Lib.hid hsep
              clear hsep
              have HNo2 : Hid (¬ (48 ≤ T.bt_ l k ∧ T.bt_ l k ≤ 57) → ParsePost l w (.returned (.tuple #[.int .i64 0, .int .i64 6])) wr) := Lib.hid (fun h => HNo.out wr hI.out.bel (fun _ s => absurd (s.digs k (by have := Hmm.out; omega) (by have := HSep.out; omega) (by have := HSep.out; have := HN3.out; omega) (by have := HSep.out; have := HN6.out; omega)) h))
              by_cases hlo : T.bt_ l k < 48
              · have x1 : ((S[k]'hkS).toNat : Int) < 48 := by rw [hxk]; omega
                have HF := Lib.hid (HNo2.out (by omega))
                clear hlo hxk
                go_wp2_with fail
                go_ret2
                exact HF.out
              · have x1 : ¬ ((S[k]'hkS).toNat : Int) < 48 := by rw [hxk]; omega
                by_cases hhi : 57 < T.bt_ l k
                · have x2 : (57 : Int) < ((S[k]'hkS).toNat : Int) := by rw [hxk]; omega
                  have HF := Lib.hid (HNo2.out (by omega))
                  clear hlo hhi hxk
                  go_wp2_with fail
                  go_ret2
                  exact HF.out
                · have x2 : ¬ (57 : Int) < ((S[k]'hkS).toNat : Int) := by rw [hxk]; omega
                  obtain ⟨D, hD⟩ : ∃ D, T.dg l k = D := ⟨_, rfl⟩
                  have hdd : D = (T.bt_ l k : Int) - 48 := by rw [← hD]; rfl
                  have hD2 : 0 ≤ D ∧ D ≤ 9 := by omega
                  have u1 : IntKind.u8.wrap (((S[k]'hkS).toNat : Int) - 48) = D := by rw [hxk, ← hdd]; simp [IntKind.wrap, IntKind.bits, IntKind.signed]; omega
                  have u2 : (((S[k]'hkS).toNat : Int) - 48) % 256 = D := by rw [hxk, ← hdd]; omega
                  have Hdig : Hid (48 ≤ T.bt_ l k ∧ T.bt_ l k ≤ 57) := Lib.hid ⟨by omega, by omega⟩
                  have HD := Lib.hid hD
                  have HDD := Lib.hid hdd
                  clear hlo hhi hxk hD hdd
                  by_cases hkN : k < N
                  · have hI2 : Hid (RI l N (k + 1) w wr) := Lib.hid (hI.out.day hkN Hdig.out)
                    have hmin : min k N = k := by omega
                    have hmin2 : min (k + 1) N = k + 1 := by omega
                    rw [hmin]
                    have hlt15 := T.days_lt (l := l) (N := N) (k := k) n15 (by omega) (by rw [Hm.out]; omega) hI.out.digs
                    have hnt := T.numN_take (l := l) (k := k) (by rw [Hm.out]; omega)
                    obtain ⟨V, hV⟩ : ∃ V, T.numN 0 (l.take k) = V := ⟨_, rfl⟩
                    rw [hV] at hlt15 hnt ⊢
                    have HV2 : Hid ((10 : Int) * (V : Int) + D = ((T.numN 0 (l.take (min (k + 1) N)) : Nat) : Int)) := Lib.hid (by rw [hmin2, hnt, HDD.out]; have := Hdig.out; omega)
                    have w1 : IntKind.i64.wrap (10 * (V : Int)) = 10 * (V : Int) := IntWalk.i64_in _ (by omega)
                    have w2 : IntKind.i64.wrap (10 * (V : Int) + D) = 10 * (V : Int) + D := IntWalk.i64_in _ (by omega)
                    have hkNi : (k : Int) < (N : Int) := by omega
                    clear hmin hmin2 hnt hV hkN
                    go_wp2_with fail
                    go_roundw
                    case rel => exact ⟨k + 1, by omega, by go_num, by rw [HV2.out], hI2⟩
                    case measure => simp [intOf]; omega
                  · have hmin : Hid (min k N = N) := Lib.hid (by omega)
                    have hmin2 : Hid (min (k + 1) N = N) := Lib.hid (by omega)
                    have hkNi : ¬ (k : Int) < (N : Int) := by omega
                    have hc : k = N + 1 ∨ k = N + 2 ∨ k = N + 4 ∨ k = N + 5 ∨ k = N + 7 ∨ k = N + 8 := by have := HSep.out; have := HN3.out; have := HN6.out; have := Hmm.out; omega
                    clear hkN
                    rcases hc with hc | hc | hc | hc | hc | hc
                    · have hst := hI.out.step (p := N) (by omega) (by omega)
                      have hcl := hI.out.cell.1
                      have hfr := hI.out.cell.2.2.2 0
                      obtain ⟨O, hO⟩ : ∃ O, T.cv l (N) k = O := ⟨_, rfl⟩
                      rw [hO, HD.out] at hst
                      rw [hO] at hcl
                      have hsub : IntKind.i64.wrap ((k : Int) - (N : Int)) = 1 := by rw [IntWalk.i64_in _ (by omega)]; omega
                      have hI2 : Hid (RI l N (k + 1) w (wr.setCell ⟨w.heap.size, 0, none⟩ (.int .i64 (10 * O + D)))) := Lib.hid (hI.out.put0 (by omega) Hdig.out hst.2.2)
                      have hO1 := hst.1
                      have hO2 := hst.2.1
                      have w1 : IntKind.i64.wrap (10 * O) = 10 * O := IntWalk.i64_in _ (by omega)
                      have w2 : IntKind.i64.wrap (10 * O + D) = 10 * O + D := IntWalk.i64_in _ (by omega)
                      clear hst hO hc
                      go_wp2_with fail
                      go_roundw
                      case rel => exact ⟨k + 1, by omega, by go_num, by rw [hmin.out, hmin2.out], hI2⟩
                      case measure => simp [intOf]; omega
                    · have hst := hI.out.step (p := N) (by omega) (by omega)
                      have hcl := hI.out.cell.1
                      have hfr := hI.out.cell.2.2.2 0
                      obtain ⟨O, hO⟩ : ∃ O, T.cv l (N) k = O := ⟨_, rfl⟩
                      rw [hO, HD.out] at hst
                      rw [hO] at hcl
                      have hsub : IntKind.i64.wrap ((k : Int) - (N : Int)) = 2 := by rw [IntWalk.i64_in _ (by omega)]; omega
                      have hI2 : Hid (RI l N (k + 1) w (wr.setCell ⟨w.heap.size, 0, none⟩ (.int .i64 (10 * O + D)))) := Lib.hid (hI.out.put0 (by omega) Hdig.out hst.2.2)
                      have hO1 := hst.1
                      have hO2 := hst.2.1
                      have w1 : IntKind.i64.wrap (10 * O) = 10 * O := IntWalk.i64_in _ (by omega)
                      have w2 : IntKind.i64.wrap (10 * O + D) = 10 * O + D := IntWalk.i64_in _ (by omega)
                      clear hst hO hc
                      go_wp2_with fail
                      go_roundw
                      case rel => exact ⟨k + 1, by omega, by go_num, by rw [hmin.out, hmin2.out], hI2⟩
                      case measure => simp [intOf]; omega
                    · have hst := hI.out.step (p := N + 3) (by omega) (by omega)
                      have hcl := hI.out.cell.2.1
                      have hfr := hI.out.cell.2.2.2 1
                      obtain ⟨O, hO⟩ : ∃ O, T.cv l (N + 3) k = O := ⟨_, rfl⟩
                      rw [hO, HD.out] at hst
                      rw [hO] at hcl
                      have hsub : IntKind.i64.wrap ((k : Int) - (N : Int)) = 4 := by rw [IntWalk.i64_in _ (by omega)]; omega
                      have hI2 : Hid (RI l N (k + 1) w (wr.setCell ⟨w.heap.size, 1, none⟩ (.int .i64 (10 * O + D)))) := Lib.hid (hI.out.put1 (by omega) Hdig.out hst.2.2)
                      have hO1 := hst.1
                      have hO2 := hst.2.1
                      have w1 : IntKind.i64.wrap (10 * O) = 10 * O := IntWalk.i64_in _ (by omega)
                      have w2 : IntKind.i64.wrap (10 * O + D) = 10 * O + D := IntWalk.i64_in _ (by omega)
                      clear hst hO hc
                      go_wp2_with fail
                      go_roundw
                      case rel => exact ⟨k + 1, by omega, by go_num, by rw [hmin.out, hmin2.out], hI2⟩
                      case measure => simp [intOf]; omega
                    · have hst := hI.out.step (p := N + 3) (by omega) (by omega)
                      have hcl := hI.out.cell.2.1
                      have hfr := hI.out.cell.2.2.2 1
                      obtain ⟨O, hO⟩ : ∃ O, T.cv l (N + 3) k = O := ⟨_, rfl⟩
                      rw [hO, HD.out] at hst
                      rw [hO] at hcl
                      have hsub : IntKind.i64.wrap ((k : Int) - (N : Int)) = 5 := by rw [IntWalk.i64_in _ (by omega)]; omega
                      have hI2 : Hid (RI l N (k + 1) w (wr.setCell ⟨w.heap.size, 1, none⟩ (.int .i64 (10 * O + D)))) := Lib.hid (hI.out.put1 (by omega) Hdig.out hst.2.2)
                      have hO1 := hst.1
                      have hO2 := hst.2.1
                      have w1 : IntKind.i64.wrap (10 * O) = 10 * O := IntWalk.i64_in _ (by omega)
                      have w2 : IntKind.i64.wrap (10 * O + D) = 10 * O + D := IntWalk.i64_in _ (by omega)
                      clear hst hO hc
                      go_wp2_with fail
                      go_roundw
                      case rel => exact ⟨k + 1, by omega, by go_num, by rw [hmin.out, hmin2.out], hI2⟩
                      case measure => simp [intOf]; omega
                    · have hst := hI.out.step (p := N + 6) (by omega) (by omega)
                      have hcl := hI.out.cell.2.2.1
                      have hfr := hI.out.cell.2.2.2 2
                      obtain ⟨O, hO⟩ : ∃ O, T.cv l (N + 6) k = O := ⟨_, rfl⟩
                      rw [hO, HD.out] at hst
                      rw [hO] at hcl
                      have hsub : IntKind.i64.wrap ((k : Int) - (N : Int)) = 7 := by rw [IntWalk.i64_in _ (by omega)]; omega
                      have hI2 : Hid (RI l N (k + 1) w (wr.setCell ⟨w.heap.size, 2, none⟩ (.int .i64 (10 * O + D)))) := Lib.hid (hI.out.put2 (by omega) Hdig.out hst.2.2)
                      have hO1 := hst.1
                      have hO2 := hst.2.1
                      have w1 : IntKind.i64.wrap (10 * O) = 10 * O := IntWalk.i64_in _ (by omega)
                      have w2 : IntKind.i64.wrap (10 * O + D) = 10 * O + D := IntWalk.i64_in _ (by omega)
                      clear hst hO hc
                      go_wp2_with fail
                      go_roundw
                      case rel => exact ⟨k + 1, by omega, by go_num, by rw [hmin.out, hmin2.out], hI2⟩
                      case measure => simp [intOf]; omega
                    · have hst := hI.out.step (p := N + 6) (by omega) (by omega)
                      have hcl := hI.out.cell.2.2.1
                      have hfr := hI.out.cell.2.2.2 2
                      obtain ⟨O, hO⟩ : ∃ O, T.cv l (N + 6) k = O := ⟨_, rfl⟩
                      rw [hO, HD.out] at hst
                      rw [hO] at hcl
                      have hsub : IntKind.i64.wrap ((k : Int) - (N : Int)) = 8 := by rw [IntWalk.i64_in _ (by omega)]; omega
                      have hI2 : Hid (RI l N (k + 1) w (wr.setCell ⟨w.heap.size, 2, none⟩ (.int .i64 (10 * O + D)))) := Lib.hid (hI.out.put2 (by omega) Hdig.out hst.2.2)
                      have hO1 := hst.1
                      have hO2 := hst.2.1
                      have w1 : IntKind.i64.wrap (10 * O) = 10 * O := IntWalk.i64_in _ (by omega)
                      have w2 : IntKind.i64.wrap (10 * O + D) = 10 * O + D := IntWalk.i64_in _ (by omega)
                      clear hst hO hc
                      go_wp2_with fail
                      go_roundw
                      case rel => exact ⟨k + 1, by omega, by go_num, by rw [hmin.out, hmin2.out], hI2⟩
                      case measure => simp [intOf]; omega
          · have hkm : k = N + 9 := by have := Hmm.out; omega
            have hmin : min k N = N := by omega
            have hV15 := T.days_lt (l := l) (N := N) (k := N) n15 (Nat.le_refl _) (by rw [Hm.out]; omega) (fun p hp => hI.out.digs p (by omega))
            obtain ⟨ca0, ca1, ca2, _⟩ := hI.out.cell
            have e0 := T.cv_end (l := l) (p := N) (k := k) (by omega)
            have e1 := T.cv_end (l := l) (p := N + 3) (k := k) (by omega)
            have e2 := T.cv_end (l := l) (p := N + 6) (k := k) (by omega)
            have dgb : ∀ p, p < k → p ≠ N → p ≠ N + 3 → p ≠ N + 6 → 0 ≤ T.dg l p ∧ T.dg l p ≤ 9 := fun p h1 h2 h3 h4 => by
              have := hI.out.digs p h1 h2 h3 h4
              have e : T.dg l p = (T.bt_ l p : Int) - 48 := rfl
              omega
            have r0 : 0 ≤ T.cv l N k ∧ T.cv l N k ≤ 99 := by
              have h1 := dgb (N + 1) (by omega) (by omega) (by omega) (by omega)
              have h2 := dgb (N + 2) (by omega) (by omega) (by omega) (by omega)
              omega
            have r1 : 0 ≤ T.cv l (N + 3) k ∧ T.cv l (N + 3) k ≤ 99 := by
              have h1 := dgb (N + 4) (by omega) (by omega) (by omega) (by omega)
              have h2 := dgb (N + 5) (by omega) (by omega) (by omega) (by omega)
              have e3 : N + 3 + 1 = N + 4 := rfl
              have e4 : N + 3 + 2 = N + 5 := rfl
              rw [e3, e4] at e1
              omega
            have r2 : 0 ≤ T.cv l (N + 6) k ∧ T.cv l (N + 6) k ≤ 99 := by
              have h1 := dgb (N + 7) (by omega) (by omega) (by omega) (by omega)
              have h2 := dgb (N + 8) (by omega) (by omega) (by omega) (by omega)
              have e3 : N + 6 + 1 = N + 7 := rfl
              have e4 : N + 6 + 2 = N + 8 := rfl
              rw [e3, e4] at e2
              omega
            have hval : ∀ t, T.TextOf l t → t = (T.numN 0 (l.take N) : Int) * 86400 + T.cv l N k * 3600 + T.cv l (N + 3) k * 60 + T.cv l (N + 6) k := fun t h => by
              obtain ⟨M, sh, hv⟩ := T.textOf_shape h
              obtain rfl := T.shape_N Hm.out sh
              rw [← hv, e0, e1, e2]
              rfl
            obtain ⟨V, hV⟩ : ∃ V, T.numN 0 (l.take N) = V := ⟨_, rfl⟩
            rw [hmin, hV]
            rw [hV] at hV15 hval
            clear dgb e0 e1 e2 hmin
            generalize T.cv l N k = a0 at *
            generalize T.cv l (N + 3) k = a1 at *
            generalize T.cv l (N + 6) k = a2 at *
            have Hval := Lib.hid hval
            have HBel := Lib.hid hI.out.bel
            clear hval hV hI
            have w1 : IntKind.i64.wrap (a0 * 3600) = a0 * 3600 := IntWalk.i64_in _ (by omega)
            have w2 : IntKind.i64.wrap (a1 * 60) = a1 * 60 := IntWalk.i64_in _ (by omega)
            have w3 : IntKind.i64.wrap (a0 * 3600 + a1 * 60) = a0 * 3600 + a1 * 60 := IntWalk.i64_in _ (by omega)
            have w4 : IntKind.i64.wrap (a0 * 3600 + a1 * 60 + a2) = a0 * 3600 + a1 * 60 + a2 := IntWalk.i64_in _ (by omega)
            have w5 : IntKind.i64.wrap (9223372036854775807 - (a0 * 3600 + a1 * 60 + a2)) = 9223372036854775807 - (a0 * 3600 + a1 * 60 + a2) := IntWalk.i64_in _ (by omega)
            by_cases hbig : 106751991167300 < (V : Int)
            · have HF : Hid (ParsePost l w (.returned (.tuple #[.int .i64 0, .int .i64 6])) wr) := Lib.hid (parse_no (fun t h => by
                have h1 := Hval.out t h
                have h2 := h.2.1
                omega) HBel.out)
              go_wp2_with fail
              go_ret2
              exact HF.out
            · have w6 : IntKind.i64.wrap ((V : Int) * 86400) = (V : Int) * 86400 := IntWalk.i64_in _ (by omega)
              by_cases hov : 9223372036854775807 - (a0 * 3600 + a1 * 60 + a2) < (V : Int) * 86400
              · have HF : Hid (ParsePost l w (.returned (.tuple #[.int .i64 0, .int .i64 6])) wr) := Lib.hid (parse_no (fun t h => by
                  have h1 := Hval.out t h
                  have h2 := h.2.1
                  omega) HBel.out)
                go_wp2_with fail
                go_ret2
                exact HF.out
              · have w7 : IntKind.i64.wrap ((V : Int) * 86400 + a0 * 3600) = (V : Int) * 86400 + a0 * 3600 := IntWalk.i64_in _ (by omega)
                have w8 : IntKind.i64.wrap ((V : Int) * 86400 + a0 * 3600 + a1 * 60) = (V : Int) * 86400 + a0 * 3600 + a1 * 60 := IntWalk.i64_in _ (by omega)
                have w9 : IntKind.i64.wrap ((V : Int) * 86400 + a0 * 3600 + a1 * 60 + a2) = (V : Int) * 86400 + a0 * 3600 + a1 * 60 + a2 := IntWalk.i64_in _ (by omega)
                obtain ⟨t, ht⟩ : ∃ t, (V : Int) * 86400 + a0 * 3600 + a1 * 60 + a2 = t := ⟨_, rfl⟩
                have ht0 : 0 ≤ t ∧ t ≤ 9223372036854775807 := by omega
                have HP := Lib.hid (RPrint_any t (show T.R64 t from ⟨by omega, by omega⟩) wr)
                unfold PrintPost at HP
                rw [show T.printL t = T.text t from if_pos ht0.1, show T.printE t = 0 from if_pos ht0.1] at HP
                rw [ht] at w9
                have Ht := Lib.hid ht
                have Hval2 : Hid (∀ u, T.TextOf l u → u = t) := Lib.hid (fun u h => by rw [← Ht.out]; exact Hval.out u h)
                clear ht
                by_cases htx : T.text t = l
                · have HF : Hid (∀ W, Below w.heap.size w W → ParsePost l w (.returned (.tuple #[.int .i64 t, .int .i64 0])) W) := Lib.hid (fun W hb => parse_yes ⟨ht0.1, ht0.2, htx.symm⟩ hb)
                  rw [htx, ← HSl.out] at HP
                  clear htx ht0
                  go_wp2_with fail
                  rw [Ht.out]
                  refine HP.out.mono ?_
                  rintro e w2 ⟨rfl, hb⟩
                  have hb2 := bt HBel.out HBel.out.size hb
                  clear hb
                  go_wp2_with fail
                  go_ret2
                  exact HF.out _ hb2
                · have HF : Hid (∀ W, Below w.heap.size w W → ParsePost l w (.returned (.tuple #[.int .i64 0, .int .i64 6])) W) := Lib.hid (fun W hb => parse_no (fun u h => htx (by rw [← Hval2.out u h]; exact h.2.2.symm)) hb)
                  have hne := ba_ne htx
                  rw [← HSl.out] at hne
                  generalize (⟨(T.text t).toArray⟩ : ByteArray) = SX at HP hne
                  clear htx ht0
                  go_wp2_with fail
                  rw [Ht.out]
                  refine HP.out.mono ?_
                  rintro e w2 ⟨rfl, hb⟩
                  have hb2 := bt HBel.out HBel.out.size hb
                  clear hb
                  go_wp2_with fail
                  go_ret2
                  exact HF.out _ hb2
      · have f0 : (((S[N]'b0).toNat : Int) != 100) = false := by rw [HAt.out N b0, k0]; rfl
        have f3 : (((S[N3]'b3).toNat : Int) != 58) = false := by rw [HAt.out N3 b3, k3]; rfl
        have f6 : (((S[N6]'b6).toNat : Int) != 58) = true := by rw [HAt.out N6 b6, bne_iff_ne]; omega
        have HF := Lib.hid (HNo.out w (Below.refl _ _) (fun _ s => absurd (by rw [← HN6.out]; exact s.c2) k6))
        clear k0 k3 k6 HNo
        go_enter Tryd.func34, Tryd.ntmps34
        go_wp2_with fail
        go_ret2
        exact HF.out
    · have f0 : (((S[N]'b0).toNat : Int) != 100) = false := by rw [HAt.out N b0, k0]; rfl
      have f3 : (((S[N3]'b3).toNat : Int) != 58) = true := by rw [HAt.out N3 b3, bne_iff_ne]; omega
      have HF := Lib.hid (HNo.out w (Below.refl _ _) (fun _ s => absurd (by rw [← HN3.out]; exact s.c1) k3))
      clear k0 k3 HNo
      go_enter Tryd.func34, Tryd.ntmps34
      go_wp2_with fail
      go_ret2
      exact HF.out
  · have f0 : (((S[N]'b0).toNat : Int) != 100) = true := by rw [HAt.out N b0, bne_iff_ne]; omega
    have HF := Lib.hid (HNo.out w (Below.refl _ _) (fun _ s => absurd s.d0 k0))
    clear k0 HNo
    go_enter Tryd.func34, Tryd.ntmps34
    go_wp2_with fail
    go_ret2
    exact HF.out
theorem RParse_any (l : List UInt8) (hl : l.length ≤ 1000) (w : World) : Calls Tryd.prog 34 #[.string ⟨l.toArray⟩] w (ParsePost l w) := by
  by_cases h : l.length < 10 ∨ 24 < l.length
  · exact RParse_len l _ rfl hl w h
  · exact RParse_form l (l.length - 9) (by omega) (by omega) (by omega) w
end Go.Proofs.YteeibhooppmbmaaDoor
