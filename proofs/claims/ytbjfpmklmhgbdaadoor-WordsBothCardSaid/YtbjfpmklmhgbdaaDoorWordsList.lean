/- Contracts of words.printRuns and words.List. -/
import Derived.Test.YtbjfpmklmhgbdaaDoorWordsSplit2
namespace Go.Proofs.YtbjfpmklmhgbdaaDoor
open Go.RowKit
namespace W
/-- The integer at a place. -/
def nth (l : List Int) (i : Nat) : Int := l[i]?.getD 0
/-- Where the run of consecutive integers ends that begins at a place. -/
def endN (l : List Int) : Nat → Nat → Nat
  | 0, i => i
  | f + 1, i => if i + 1 < l.length ∧ nth l (i + 1) = nth l i + 1 then endN l f (i + 1) else i
/-- A run, as it is written. -/
def runT (l : List Int) (i k : Nat) : List UInt8 := if i < k then Lib.itoa (nth l i) ++ ([45] ++ Lib.itoa (nth l k)) else Lib.itoa (nth l i)
/-- The runs from a place on. -/
def texts (l : List Int) : Nat → Nat → List (List UInt8)
  | 0, _ => []
  | f + 1, i => if i < l.length then runT l i (endN l l.length i) :: texts l f (endN l l.length i + 1) else []
theorem endN_step {l : List Int} {f i : Nat} (h : i + 1 < l.length) (h2 : nth l (i + 1) = nth l i + 1) (hf : l.length ≤ i + f) : ∃ f', l.length ≤ i + 1 + f' ∧ endN l f i = endN l f' (i + 1) := by
  cases f with
  | zero => omega
  | succ f => exact ⟨f, by omega, if_pos ⟨h, h2⟩⟩
theorem endN_stop {l : List Int} {f i : Nat} (h : ¬ (i + 1 < l.length ∧ nth l (i + 1) = nth l i + 1)) : endN l f i = i := by
  cases f with
  | zero => rfl
  | succ f => exact if_neg h
theorem texts_step {l : List Int} {f i : Nat} (h : i < l.length) (hf : l.length ≤ i + f) : ∃ f', texts l f i = runT l i (endN l l.length i) :: texts l f' (endN l l.length i + 1) ∧ l.length ≤ i + 1 + f' := by
  cases f with
  | zero => omega
  | succ f => exact ⟨f, if_pos h, by omega⟩
theorem texts_end {l : List Int} {f i : Nat} (h : ¬ i < l.length) : texts l f i = [] := by
  cases f with
  | zero => rfl
  | succ f => exact if_neg h
theorem itoa_len (n : Int) (h0 : 0 ≤ n) (h1 : n ≤ 1000000000) : (Lib.itoa n).length ≤ 21 := Lib.itoa_length_le n (by omega) (by omega)
theorem runT_len (l : List Int) (i k : Nat) (h : ∀ j, 0 ≤ nth l j ∧ nth l j ≤ 1000000000) : (runT l i k).length ≤ 43 := by
  have h1 := itoa_len (nth l i) (h i).1 (h i).2
  have h2 := itoa_len (nth l k) (h k).1 (h k).2
  unfold runT
  split
  · simp; omega
  · omega
end W
/-- The table of powers lies in its variable. -/
def PowIn (w : World) : Prop := Lib.TabIs Tryd.prog w "internal/strconv.uint64pow10" .u64 Lib.pow10Tab
theorem pow_named : Tryd.prog.globalNamed "internal/strconv.uint64pow10" = some 3 := by kernel_rfl
theorem PowIn.below {w w1 : World} {B : Nat} (h : PowIn w) (hb : Below B w w1) (h0 : 3 < B) : PowIn w1 := var?_below hb pow_named h0 h
theorem info_str : (Tryd.prog.info? 9).map (fun i => (i.zero, i.size, i.bytes)) = some (some (.string ⟨#[]⟩), 1, 16) := by kernel_rfl

theorem W.lens_le (xs : List (List UInt8)) (h : ∀ x ∈ xs, x.length ≤ 43) : Lib.lens xs ≤ 43 * xs.length := by
  induction xs with
  | nil => simp [Lib.lens]
  | cons x r ih =>
    have h1 := h x (by simp)
    have h2 := ih fun y hy => h y (by simp [hy])
    simp only [Lib.lens, List.map_cons, List.sum_cons, List.length_cons] at h2 ⊢; omega
theorem W.join_le (xs : List (List UInt8)) (h : ∀ x ∈ xs, x.length ≤ 43) : (Lib.join xs [44]).length ≤ 44 * xs.length := by
  cases xs with
  | nil => simp [Lib.join]
  | cons x r =>
    have h1 := W.lens_le _ h
    rw [Lib.join_length]
    simp at h1 ⊢; omega

theorem join_own {base : Nat} {v : Value} {xs : List (List UInt8)} {sep : List UInt8} {w : World} (hown : w.ownsRow base 9 1 v xs.length (xs.map fun x => .string ⟨x.toArray⟩)) (hn : xs.length ≤ 140737488355328) (hlen : (Lib.join xs sep).length ≤ 140737488355328) :
    Calls Tryd.prog 47 #[v, .string ⟨sep.toArray⟩] w fun e w' => e = .returned (.string ⟨(Lib.join xs sep).toArray⟩) ∧ Below w.heap.size w w' := by
  rcases hown.2 with ⟨rfl, h0⟩ | ⟨G, c, cur, rfl, hb, hG, hnc, hcm, hcs, htk⟩
  · have : xs = [] := List.length_eq_zero_iff.1 h0
    subst this
    exact (Tryd.strings_Join_none none 0 ⟨sep.toArray⟩ w).mono fun _ _ h => ⟨h.1, h.2 ▸ Below.refl _ _⟩
  · have hcell := fun j hj => World.ownsRow.cellAt hown j hj
    have hl : xs.length = (xs.map fun x : List UInt8 => (⟨x.toArray⟩ : ByteArray)).length := by simp
    have hm : (xs.map fun x : List UInt8 => (⟨x.toArray⟩ : ByteArray)).map (·.data.toList) = xs := by simp [Function.comp_def]
    have h := Tryd.strings_Join G 0 c (xs.map fun x => ⟨x.toArray⟩) ⟨sep.toArray⟩ w (fun j x hj => by
      have hjl : j < xs.length := by
        rw [hl]; exact (List.getElem?_eq_some_iff.1 hj).1
      have := hcell j (by omega)
      simp only [Nat.zero_add]
      rw [this]
      simp only [List.getElem?_map, Option.map_eq_some_iff] at hj ⊢
      obtain ⟨y, hy, rfl⟩ := hj
      exact ⟨y, hy, rfl⟩) (by
        rcases Nat.lt_or_ge G w.heap.size with hlt | hge
        · exact hlt
        · rw [Array.getElem?_eq_none hge] at hG; cases hG) (by rw [← hl]; exact hn) (by rw [← hl]; exact hnc) (by rw [hm]; simpa using hlen)
    rw [hm, ← hl] at h
    exact h.mono fun _ _ h => ⟨by simpa using h.1, h.2⟩

set_option maxRecDepth 100000 in
set_option maxHeartbeats 4000000 in
theorem printRuns_any (g o cap : Nat) (l : List Int) (w : World) (hc : ∀ j, j < l.length → w.cell? ⟨g, o + j, none⟩ = some (.int .i64 (W.nth l j))) (hg : g < w.heap.size) (hl : l.length ≤ 500)
    (hr : ∀ j, 0 ≤ W.nth l j ∧ W.nth l j ≤ 1000000000) (hpow : PowIn w) (h0 : 3 < w.heap.size) :
    Calls Tryd.prog 50 #[.slice (some ⟨g, o, none⟩) l.length cap] w fun e w' => e = .returned (.string ⟨(Lib.join (W.texts l l.length 0) [44]).toArray⟩) ∧ Below w.heap.size w w' := by
  have Hc := Lib.hid hc
  have Hr := Lib.hid hr
  have Hp := Lib.hid hpow
  obtain ⟨m, hm⟩ : ∃ m, l.length = m := ⟨_, rfl⟩
  have Hm := Lib.hid hm
  rw [hm] at hl ⊢
  clear hc hr hpow hm
  obtain ⟨i0, hi, hz0, hz1, hz2⟩ := info_parts info_str
  go_enter Tryd.func50, Tryd.ntmps50
  go_wp2_with fail
  go_loopw [3, 4] (fun v i wr => ∃ (pre : List (List UInt8)) (k f : Nat), k ≤ m ∧ i = .int .i64 k ∧ m ≤ k + f ∧ W.texts l m 0 = pre ++ W.texts l f k ∧ pre.length ≤ k ∧ (∀ x ∈ pre, x.length ≤ 43) ∧ wr.ownsRow w.heap.size 9 1 v pre.length (pre.map fun x => .string ⟨x.toArray⟩) ∧ Below w.heap.size w wr) (fun _ i _ => m - (intOf i).toNat)
  case atStart => exact ⟨[], 0, m, Nat.zero_le _, rfl, by omega, rfl, Nat.le_refl _, by simp, World.ownsRow_nil _ _ _ _, Below.refl _ _⟩
  case round =>
    obtain ⟨pre, k, f, hk, rfl, hf, htx, hpl, hp43, hown, hbel⟩ := hrel
    have Htx := Lib.hid htx
    have Hp43 := Lib.hid hp43
    clear htx hp43
    by_cases hlt : k < m
    · go_wp2_with fail
      obtain ⟨wo, rfl⟩ : ∃ wo : World, wo = wr := ⟨_, rfl⟩
      go_loopw [5] (fun c wr => ∃ (n fi : Nat), k ≤ n ∧ n < m ∧ c = .int .i64 n ∧ m ≤ n + fi ∧ W.endN l m k = W.endN l fi n ∧ Below wo.heap.size wo wr) (fun c _ => m - (intOf c).toNat)
      case atStart => exact ⟨k, m, Nat.le_refl _, hlt, rfl, by omega, rfl, Below.refl _ _⟩
      case round =>
        obtain ⟨n, fi, hkn, hnm, rfl, hfi, hen, hb2⟩ := hrel
        have Hen := Lib.hid hen
        clear hen
        have hbw := bt hbel hb2
        have hcell : ∀ j, j < m → wr.cell? ⟨g, o + j, none⟩ = some (.int .i64 (W.nth l j)) := fun j hj => (hbw.cell (p := ⟨g, o + j, none⟩) hg).trans (Hc.out j (by rw [Hm.out]; exact hj))
        have c1 := hcell n hnm
        have Hcell := Lib.hid hcell
        clear hcell
        obtain ⟨a, ha⟩ : ∃ a, W.nth l n = a := ⟨_, rfl⟩
        have hra := Hr.out n
        rw [ha] at c1 hra
        have Ha := Lib.hid ha
        clear ha
        by_cases h1 : n + 1 < m
        · have c2 := Hcell.out (n + 1) h1
          obtain ⟨b, hb⟩ : ∃ b, W.nth l (n + 1) = b := ⟨_, rfl⟩
          rw [hb] at c2
          have c2' : wr.cell? ⟨g, o + n + 1, none⟩ = some (.int .i64 b) := by rw [Nat.add_assoc]; exact c2
          have Hb := Lib.hid hb
          clear hb
          have hs1 : IntKind.i64.wrap ((n : Int) + 1) = (n : Int) + 1 := IntWalk.i64_in _ (by omega)
          have hs2 : IntKind.i64.wrap (a + 1) = a + 1 := IntWalk.i64_in _ (by omega)
          have hs3 : ((n : Int) + 1).toNat = n + 1 := by omega
          have hs4 : decide ((n : Int) + 1 < (m : Int)) = true := by simp; omega
          have hs5 : (0 : Int) ≤ (n : Int) + 1 := by omega
          have hs6 : (n : Int) + 1 < (m : Int) := by omega
          by_cases hstep : (b == a + 1) = true
          · obtain ⟨f', hf1, hf2⟩ := W.endN_step (l := l) (f := fi) (i := n) (by rw [Hm.out]; exact h1) (by rw [Hb.out, Ha.out]; exact beq_iff_eq.1 hstep) (by rw [Hm.out]; exact hfi)
            rw [Hm.out] at hf1
            have Hf2 := Lib.hid hf2
            clear hf2
            go_wp2_with fail
            go_quiet (fail)
            go_wp2_with fail
            go_roundw
            case rel => exact ⟨n + 1, f', by omega, h1, by go_num, hf1, by rw [Hen.out, Hf2.out], below_drewN hb2 _⟩
            case measure => simp [intOf]; omega
          · have hstep' : (b == a + 1) = false := by simpa using hstep
            have HS : ¬ (n + 1 < l.length ∧ W.nth l (n + 1) = W.nth l n + 1) := fun h => hstep (by rw [← Hb.out, ← Ha.out]; exact beq_iff_eq.2 h.2)
            clear hstep
            go_wp2_with fail
            go_quiet (fail)
            have hend : W.endN l m k = n := by rw [Hen.out]; exact W.endN_stop HS
            have hbn : Below w.heap.size w (wr.drewN nq) := below_drewN hbw _
            have hpw := Hp.out.below hbn h0
            obtain ⟨x, hx⟩ : ∃ x, W.nth l k = x := ⟨_, rfl⟩
            have hrx := Hr.out k
            have hck := Hcell.out k hlt
            rw [hx] at hrx hck
            have Hx := Lib.hid hx
            have Hend := Lib.hid hend
            have HP := Lib.hid hpw
            have HC := Lib.hid c1
            have hlx := W.itoa_len x hrx.1 hrx.2
            have hla := W.itoa_len a hra.1 hra.2
            clear hx hend hpw c1
            go_wp2_with fail
            refine (Digits_any x _ (by omega) (by omega) HP.out).mono ?_
            rintro e w1 ⟨rfl, hb1⟩
            have hb1w : Below w.heap.size w w1 := hbn.trans (hb1.mono hbn.size)
            have hown1 : w1.ownsRow w.heap.size 9 1 u3 pre.length (pre.map fun x => .string ⟨x.toArray⟩) := own_below (own_below hown (below_drewN hb2 nq)) hb1
            have hsz1 := hb1w.size
            by_cases hkn2 : k < n
            · have hrun : W.runT l k n = Lib.itoa x ++ ([45] ++ Lib.itoa a) := by unfold W.runT; rw [if_pos hkn2, Hx.out, Ha.out]
              have cn : w1.cell? ⟨g, o + n, none⟩ = some (.int .i64 a) := (hb1.cell (p := ⟨g, o + n, none⟩) (by show g < (wr.drewN nq).heap.size; have := hbn.size; omega)).trans HC.out
              have hpw1 := Hp.out.below hb1w h0
              have HP1 := Lib.hid hpw1
              have Hrun := Lib.hid hrun
              clear hpw1 hrun
              go_wp2_with fail
              refine (Digits_any a _ (by omega) (by omega) HP1.out).mono ?_
              rintro e w2 ⟨rfl, hb2'⟩
              have hb2w : Below w.heap.size w w2 := bt hb1w hb2'
              have hown2 := own_below hown1 hb2'
              have hsz2 := hb2w.size
              go_wp2_with (first | (at_builtin; refine wpList_append_own _ rfl _ _ 59 rfl w.heap.size 9 i0 (.string ⟨#[]⟩) 1 16 Tryd.underlying59 hi hz0 hz1 hz2 rfl (by decide) _ _ _ rfl (hown2.alloc _) ⟨w2.heap.size, 0, none⟩ 1 1 [.string (⟨(Lib.itoa x).toArray⟩ ++ (⟨#[45]⟩ ++ ⟨(Lib.itoa a).toArray⟩))] rfl rfl ?c1A ?c2A ?c3A ?c4A ?c5A ?_))
              case c1A =>
                intro j x hj
                match j, hj with
                | 0, hj => simp at hj; subst hj; simp [Addr.add]
              case c2A => intro x hx; simp at hx; subst hx; rfl
              case c3A => unfold maxLen; omega
              case c4A => omega
              case c5A => simp; omega
              · intro v' w3 hown' hgrow _
                have hstr : (⟨(Lib.itoa x).toArray⟩ : ByteArray) ++ (⟨#[45]⟩ ++ ⟨(Lib.itoa a).toArray⟩) = ⟨(W.runT l k n).toArray⟩ := by rw [Hrun.out, ← mk_append, ← mk_append]
                have hown3 : w3.ownsRow w.heap.size 9 1 v' (pre ++ [W.runT l k n]).length ((pre ++ [W.runT l k n]).map fun x => .string ⟨x.toArray⟩) := by rw [hstr] at hown'; simpa using hown'
                have hbel3 : Below w.heap.size w w3 := (hb2w.alloc hsz2 _).grown hgrow (by simp; omega) (fun j hj => (hown2.lt j hj).1)
                obtain ⟨f', hf1, hf2⟩ := W.texts_step (l := l) (f := f) (i := k) (by rw [Hm.out]; exact hlt) (by rw [Hm.out]; exact hf)
                have htx2 : W.texts l m 0 = (pre ++ [W.runT l k n]) ++ W.texts l f' (n + 1) := by
                  rw [Htx.out, hf1, Hm.out, Hend.out]; simp
                rw [Hm.out] at hf2
                have h43 : ∀ y ∈ pre ++ [W.runT l k n], y.length ≤ 43 := fun y hy => by
                  rcases List.mem_append.1 hy with h | h
                  · exact Hp43.out y h
                  · rw [List.mem_singleton.1 h]; exact W.runT_len l k n Hr.out
                have Hown3 := Lib.hid hown3
                have Htx2 := Lib.hid htx2
                have H43 := Lib.hid h43
                clear hown' hown3 htx2 hstr hf1 h43
                go_wp2_with fail
                go_roundw
                case rel => exact ⟨pre ++ [W.runT l k n], n + 1, f', by omega, by go_num, by omega, Htx2.out, by simp; omega, H43.out, Hown3.out, hbel3⟩
                case measure => simp [intOf]; omega
            · have hkn3 : k = n := by omega
              have hrun : W.runT l k n = Lib.itoa x := by unfold W.runT; rw [if_neg hkn2, Hx.out]
              have Hrun := Lib.hid hrun
              have Hkn3 := Lib.hid hkn3
              clear hrun hkn3
              go_wp2_with (first | (at_builtin; refine wpList_append_own _ rfl _ _ 59 rfl w.heap.size 9 i0 (.string ⟨#[]⟩) 1 16 Tryd.underlying59 hi hz0 hz1 hz2 rfl (by decide) _ _ _ rfl (hown1.alloc _) ⟨w1.heap.size, 0, none⟩ 1 1 [.string ⟨(Lib.itoa x).toArray⟩] rfl rfl ?c1B ?c2B ?c3B ?c4B ?c5B ?_))
              case c1B =>
                intro j x hj
                match j, hj with
                | 0, hj => simp at hj; subst hj; simp [Addr.add]
              case c2B => intro x hx; simp at hx; subst hx; rfl
              case c3B => unfold maxLen; omega
              case c4B => omega
              case c5B => simp; omega
              · intro v' w3 hown' hgrow _
                have hown3 : w3.ownsRow w.heap.size 9 1 v' (pre ++ [W.runT l k n]).length ((pre ++ [W.runT l k n]).map fun x => .string ⟨x.toArray⟩) := by rw [Hrun.out]; simpa using hown'
                have hbel3 : Below w.heap.size w w3 := (hb1w.alloc hsz1 _).grown hgrow (by simp; omega) (fun j hj => (hown1.lt j hj).1)
                obtain ⟨f', hf1, hf2⟩ := W.texts_step (l := l) (f := f) (i := k) (by rw [Hm.out]; exact hlt) (by rw [Hm.out]; exact hf)
                have htx2 : W.texts l m 0 = (pre ++ [W.runT l k n]) ++ W.texts l f' (n + 1) := by
                  rw [Htx.out, hf1, Hm.out, Hend.out]; simp
                rw [Hm.out] at hf2
                have h43 : ∀ y ∈ pre ++ [W.runT l k n], y.length ≤ 43 := fun y hy => by
                  rcases List.mem_append.1 hy with h | h
                  · exact Hp43.out y h
                  · rw [List.mem_singleton.1 h]; exact W.runT_len l k n Hr.out
                have Hown3 := Lib.hid hown3
                have Htx2 := Lib.hid htx2
                have H43 := Lib.hid h43
                clear hown' hown3 htx2 hf1 h43
                go_wp2_with fail
                go_roundw
                case rel => exact ⟨pre ++ [W.runT l k n], n + 1, f', by omega, by go_num, by omega, Htx2.out, by simp; omega, H43.out, Hown3.out, hbel3⟩
                case measure => simp [intOf]; omega
        · have HS : ¬ (n + 1 < l.length ∧ W.nth l (n + 1) = W.nth l n + 1) := fun h => h1 (by rw [← Hm.out]; exact h.1)
          have hs1 : IntKind.i64.wrap ((n : Int) + 1) = (n : Int) + 1 := IntWalk.i64_in _ (by omega)
          have hs4 : decide ((n : Int) + 1 < (m : Int)) = false := by simp; omega
          have hs6 : (m : Int) ≤ (n : Int) + 1 := by omega
          go_wp2_with fail
          go_quiet (fail)
          have hend : W.endN l m k = n := by rw [Hen.out]; exact W.endN_stop HS
          have hbn : Below w.heap.size w (wr.drewN nq) := below_drewN hbw _
          have hpw := Hp.out.below hbn h0
          obtain ⟨x, hx⟩ : ∃ x, W.nth l k = x := ⟨_, rfl⟩
          have hrx := Hr.out k
          have hck := Hcell.out k hlt
          rw [hx] at hrx hck
          have Hx := Lib.hid hx
          have Hend := Lib.hid hend
          have HP := Lib.hid hpw
          have HC := Lib.hid c1
          have hlx := W.itoa_len x hrx.1 hrx.2
          have hla := W.itoa_len a hra.1 hra.2
          clear hx hend hpw c1
          go_wp2_with fail
          refine (Digits_any x _ (by omega) (by omega) HP.out).mono ?_
          rintro e w1 ⟨rfl, hb1⟩
          have hb1w : Below w.heap.size w w1 := hbn.trans (hb1.mono hbn.size)
          have hown1 : w1.ownsRow w.heap.size 9 1 u3 pre.length (pre.map fun x => .string ⟨x.toArray⟩) := own_below (own_below hown (below_drewN hb2 nq)) hb1
          have hsz1 := hb1w.size
          by_cases hkn2 : k < n
          · have hrun : W.runT l k n = Lib.itoa x ++ ([45] ++ Lib.itoa a) := by unfold W.runT; rw [if_pos hkn2, Hx.out, Ha.out]
            have cn : w1.cell? ⟨g, o + n, none⟩ = some (.int .i64 a) := (hb1.cell (p := ⟨g, o + n, none⟩) (by show g < (wr.drewN nq).heap.size; have := hbn.size; omega)).trans HC.out
            have hpw1 := Hp.out.below hb1w h0
            have HP1 := Lib.hid hpw1
            have Hrun := Lib.hid hrun
            clear hpw1 hrun
            go_wp2_with fail
            refine (Digits_any a _ (by omega) (by omega) HP1.out).mono ?_
            rintro e w2 ⟨rfl, hb2'⟩
            have hb2w : Below w.heap.size w w2 := bt hb1w hb2'
            have hown2 := own_below hown1 hb2'
            have hsz2 := hb2w.size
            go_wp2_with (first | (at_builtin; refine wpList_append_own _ rfl _ _ 59 rfl w.heap.size 9 i0 (.string ⟨#[]⟩) 1 16 Tryd.underlying59 hi hz0 hz1 hz2 rfl (by decide) _ _ _ rfl (hown2.alloc _) ⟨w2.heap.size, 0, none⟩ 1 1 [.string (⟨(Lib.itoa x).toArray⟩ ++ (⟨#[45]⟩ ++ ⟨(Lib.itoa a).toArray⟩))] rfl rfl ?c1A ?c2A ?c3A ?c4A ?c5A ?_))
            case c1A =>
              intro j x hj
              match j, hj with
              | 0, hj => simp at hj; subst hj; simp [Addr.add]
            case c2A => intro x hx; simp at hx; subst hx; rfl
            case c3A => unfold maxLen; omega
            case c4A => omega
            case c5A => simp; omega
            · intro v' w3 hown' hgrow _
              have hstr : (⟨(Lib.itoa x).toArray⟩ : ByteArray) ++ (⟨#[45]⟩ ++ ⟨(Lib.itoa a).toArray⟩) = ⟨(W.runT l k n).toArray⟩ := by rw [Hrun.out, ← mk_append, ← mk_append]
              have hown3 : w3.ownsRow w.heap.size 9 1 v' (pre ++ [W.runT l k n]).length ((pre ++ [W.runT l k n]).map fun x => .string ⟨x.toArray⟩) := by rw [hstr] at hown'; simpa using hown'
              have hbel3 : Below w.heap.size w w3 := (hb2w.alloc hsz2 _).grown hgrow (by simp; omega) (fun j hj => (hown2.lt j hj).1)
              obtain ⟨f', hf1, hf2⟩ := W.texts_step (l := l) (f := f) (i := k) (by rw [Hm.out]; exact hlt) (by rw [Hm.out]; exact hf)
              have htx2 : W.texts l m 0 = (pre ++ [W.runT l k n]) ++ W.texts l f' (n + 1) := by
                rw [Htx.out, hf1, Hm.out, Hend.out]; simp
              rw [Hm.out] at hf2
              have h43 : ∀ y ∈ pre ++ [W.runT l k n], y.length ≤ 43 := fun y hy => by
                rcases List.mem_append.1 hy with h | h
                · exact Hp43.out y h
                · rw [List.mem_singleton.1 h]; exact W.runT_len l k n Hr.out
              have Hown3 := Lib.hid hown3
              have Htx2 := Lib.hid htx2
              have H43 := Lib.hid h43
              clear hown' hown3 htx2 hstr hf1 h43
              go_wp2_with fail
              go_roundw
              case rel => exact ⟨pre ++ [W.runT l k n], n + 1, f', by omega, by go_num, by omega, Htx2.out, by simp; omega, H43.out, Hown3.out, hbel3⟩
              case measure => simp [intOf]; omega
          · have hkn3 : k = n := by omega
            have hrun : W.runT l k n = Lib.itoa x := by unfold W.runT; rw [if_neg hkn2, Hx.out]
            have Hrun := Lib.hid hrun
            have Hkn3 := Lib.hid hkn3
            clear hrun hkn3
            go_wp2_with (first | (at_builtin; refine wpList_append_own _ rfl _ _ 59 rfl w.heap.size 9 i0 (.string ⟨#[]⟩) 1 16 Tryd.underlying59 hi hz0 hz1 hz2 rfl (by decide) _ _ _ rfl (hown1.alloc _) ⟨w1.heap.size, 0, none⟩ 1 1 [.string ⟨(Lib.itoa x).toArray⟩] rfl rfl ?c1B ?c2B ?c3B ?c4B ?c5B ?_))
            case c1B =>
              intro j x hj
              match j, hj with
              | 0, hj => simp at hj; subst hj; simp [Addr.add]
            case c2B => intro x hx; simp at hx; subst hx; rfl
            case c3B => unfold maxLen; omega
            case c4B => omega
            case c5B => simp; omega
            · intro v' w3 hown' hgrow _
              have hown3 : w3.ownsRow w.heap.size 9 1 v' (pre ++ [W.runT l k n]).length ((pre ++ [W.runT l k n]).map fun x => .string ⟨x.toArray⟩) := by rw [Hrun.out]; simpa using hown'
              have hbel3 : Below w.heap.size w w3 := (hb1w.alloc hsz1 _).grown hgrow (by simp; omega) (fun j hj => (hown1.lt j hj).1)
              obtain ⟨f', hf1, hf2⟩ := W.texts_step (l := l) (f := f) (i := k) (by rw [Hm.out]; exact hlt) (by rw [Hm.out]; exact hf)
              have htx2 : W.texts l m 0 = (pre ++ [W.runT l k n]) ++ W.texts l f' (n + 1) := by
                rw [Htx.out, hf1, Hm.out, Hend.out]; simp
              rw [Hm.out] at hf2
              have h43 : ∀ y ∈ pre ++ [W.runT l k n], y.length ≤ 43 := fun y hy => by
                rcases List.mem_append.1 hy with h | h
                · exact Hp43.out y h
                · rw [List.mem_singleton.1 h]; exact W.runT_len l k n Hr.out
              have Hown3 := Lib.hid hown3
              have Htx2 := Lib.hid htx2
              have H43 := Lib.hid h43
              clear hown' hown3 htx2 hf1 h43
              go_wp2_with fail
              go_roundw
              case rel => exact ⟨pre ++ [W.runT l k n], n + 1, f', by omega, by go_num, by omega, Htx2.out, by simp; omega, H43.out, Hown3.out, hbel3⟩
              case measure => simp [intOf]; omega
    · have htx' : W.texts l m 0 = pre := by
        rw [Htx.out, W.texts_end (by rw [Hm.out]; exact hlt), List.append_nil]
      have Htx' := Lib.hid htx'
      clear htx'
      obtain ⟨sj, hsj⟩ : ∃ sj : ByteArray, sj = ⟨#[44]⟩ := ⟨_, rfl⟩
      have hJ := join_own (sep := [44]) hown (by omega) (by have := W.join_le pre Hp43.out; omega)
      go_wp2_with fail
      refine hJ.mono ?_
      rintro e w1 ⟨rfl, hb1⟩
      have hb := hbel.trans (hb1.mono hbel.size)

      go_wp2_with fail
      go_ret
      exact ⟨by rw [Htx'.out]; rfl, hb⟩
end Go.Proofs.YtbjfpmklmhgbdaaDoor
