/- Contracts of what goes over a list of spans: checkAll of the program; list, In and Same of the reference. -/
import Derived.Test.YtnehllkklmdpfaaDoorTmMem
import Derived.LoopN
namespace Go.Proofs.YtnehllkklmdpfaaDoor
open Go.RowKit
open T (SV)
set_option linter.unusedSimpArgs false
namespace T
/-- The error of the first span that is none. -/
def errL : List SV → Int
  | [] => 0
  | s :: l => if checkE s.1 s.2 = 0 then errL l else checkE s.1 s.2
theorem errL_at {l : List SV} {k : Nat} (h : k < l.length) : errL (l.drop k) = if checkE (l[k]).1 (l[k]).2 = 0 then errL (l.drop (k + 1)) else checkE (l[k]).1 (l[k]).2 := by
  rw [List.drop_eq_getElem_cons h]; rfl
theorem errL_end {l : List SV} {k : Nat} (h : ¬ k < l.length) : errL (l.drop k) = 0 := by
  rw [List.drop_eq_nil_of_le (by omega)]; rfl
theorem errL_good : ∀ {l : List SV}, errL l = 0 → (∀ s ∈ l, R64 s.1 ∧ R64 s.2) → Good l
  | [], _, _ => fun s h => by cases h
  | a :: l, h, hn => fun s hs => by
    unfold errL at h
    have h0 : checkE a.1 a.2 = 0 := Classical.byContradiction fun h1 => by rw [if_neg h1] at h; exact h1 h
    rw [if_pos h0] at h
    rcases List.mem_cons.1 hs with rfl | hs
    · have := hn s (by simp)
      unfold R64 at this
      unfold checkE at h0
      split at h0
      · split at h0
        · unfold big; omega
        · cases h0
      · cases h0
    · exact errL_good h (fun x hx => hn x (by simp [hx])) s hs
theorem good_errL : ∀ {l : List SV}, Good l → errL l = 0
  | [], _ => rfl
  | a :: l, h => by
    have h0 := h a (by simp)
    have h1 : checkE a.1 a.2 = 0 := by unfold checkE; rw [if_pos (by omega), if_pos h0.2.1]
    unfold errL
    rw [if_pos h1]
    exact good_errL fun s hs => h s (by simp [hs])
end T
def ErrPost (E : Int) (w : World) (e : Ending) (w' : World) : Prop := e = .returned (.int .i64 E) ∧ Below w.heap.size w w'
theorem err_post {E E' : Int} {w w' : World} (h : E = E') (hb : Below w.heap.size w w') : ErrPost E w (.returned (.int .i64 E')) w' := ⟨by rw [h], hb⟩
set_option maxRecDepth 100000 in
set_option maxHeartbeats 1000000 in
theorem checkAll_any (A : Option Addr) (c m : Nat) (l : List SV) (w : World) (hb : SpIn w w.heap.size A c l) (hm : l.length = m) :
    Calls Tryd.prog 38 #[.slice A m c] w (ErrPost (T.errL l) w) := by
  have hlc := hb.le
  have hcm := hb.cap
  unfold maxLen at hcm
  have Hm := Lib.hid hm
  have HB := Lib.hid hb
  rw [hm] at hlc
  clear hm hb
  go_enter Tryd.func38, Tryd.ntmps38
  go_wp2_with fail
  go_loopw [8] (fun i wr => ∃ k : Nat, k ≤ m ∧ i = .int .i64 k ∧ Below w.heap.size w wr ∧ Hid (T.errL l = T.errL (l.drop k))) (fun i _ => m - (intOf i).toNat)
  case atStart => exact ⟨0, Nat.zero_le _, rfl, Below.refl _ _, Lib.hid rfl⟩
  case round =>
    obtain ⟨k, hk, rfl, hbel, HA⟩ := hrel
    by_cases hlt : k < m
    · have hkf : k < l.length := by rw [Hm.out]; exact hlt
      obtain ⟨ad, rfl, hlb, c0, c1⟩ := (HB.out.below hbel).at_ hkf
      obtain ⟨x, y, hs⟩ : ∃ x y, l[k]'hkf = (x, y) := ⟨_, _, rfl⟩
      rw [hs] at c0 c1
      rw [addr_one] at c1
      have HE := Lib.hid (T.errL_at hkf)
      rw [hs] at HE
      clear hs
      have HC := Lib.hid (fun w => Check_any x y w)
      have HSz := Lib.hid hbel.size
      by_cases he : T.checkE x y = 0
      · rw [he] at HC
        have HE2 : Hid (T.errL l = T.errL (l.drop (k + 1))) := Lib.hid (by rw [HA.out, HE.out]; exact if_pos he)
        clear he
        go_wp2_with fail
        refine (HC.out _).mono ?_
        rintro e w1 ⟨rfl, hb1⟩
        have hb2 : Below w.heap.size w w1 := bt (hbel.alloc HSz.out (.cells #[.int .i64 x, .int .i64 y] 32)) (by simp; have := HSz.out; omega) hb1
        go_wp2_with fail
        go_roundw
        case rel => exact ⟨k + 1, by omega, by go_num, hb2, HE2⟩
        case measure => simp [intOf]; omega
      · have HE2 : Hid (T.errL l = T.checkE x y) := Lib.hid (by rw [HA.out, HE.out]; exact if_neg he)
        obtain ⟨E, hE⟩ : ∃ E, T.checkE x y = E := ⟨_, rfl⟩
        rw [hE] at HC he HE2
        clear hE HE
        go_wp2_with fail
        refine (HC.out _).mono ?_
        rintro e w1 ⟨rfl, hb1⟩
        have hb2 : Below w.heap.size w w1 := bt (hbel.alloc HSz.out (.cells #[.int .i64 x, .int .i64 y] 32)) (by simp; have := HSz.out; omega) hb1
        go_wp2_with fail
        go_ret
        exact err_post HE2.out hb2
    · have HO := Lib.hid (HA.out.trans (T.errL_end (by rw [Hm.out]; exact hlt)))
      go_wp2_with fail
      go_ret
      exact err_post HO.out hbel
end Go.Proofs.YtnehllkklmdpfaaDoor
