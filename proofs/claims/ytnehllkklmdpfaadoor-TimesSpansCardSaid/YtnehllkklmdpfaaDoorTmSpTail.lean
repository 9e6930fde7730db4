/- TimesSpans behind its first spans. -/
import Derived.Test.YtnehllkklmdpfaaDoorTmRSets
namespace Go.Proofs.YtnehllkklmdpfaaDoor
open Go.RowKit
open T (SV)
set_option linter.unusedSimpArgs false
set_option maxRecDepth 100000
/-- What SetPost leaves, read. -/
def SetRd (E : Int) (S : Int → Prop) (w : World) (e : Ending) (w' : World) : Prop := ∃ A c M acc, e = .returned (.tuple #[.slice A (M : Nat) c, .int .i64 E]) ∧ SpIn w' w'.heap.size A c acc ∧ acc.length = M ∧ (E = 0 → T.Canon S acc) ∧ (E ≠ 0 → acc = []) ∧ Below w.heap.size w w'
theorem SetPost.rd {E : Int} {S : Int → Prop} {n : Nat} {w w' : World} {e : Ending} (h : SetPost E S n w e w') (hS : E = 0 → ∀ t, S t → 0 ≤ t ∧ t < T.big) : SetRd E S w e w' := by
  obtain ⟨v, acc, rfl, hown, hcan, hno, _, hb⟩ := h
  have hg : T.Good acc := by
    by_cases h0 : E = 0
    · exact (hcan h0).good (hS h0)
    · rw [hno h0]; exact fun s hs => by cases hs
  obtain ⟨A, c, rfl, hsp⟩ := hown.reads hg.nums
  exact ⟨A, c, acc.length, acc, rfl, hsp, rfl, hcan, hno, hb⟩
theorem T.same_lists {E : Int} {S : Int → Prop} {a b : List SV} (h1 : E = 0 → Canon S a) (h2 : E ≠ 0 → a = []) (k1 : E = 0 → Canon S b) (k2 : E ≠ 0 → b = []) : a = b := by
  by_cases h : E = 0
  · exact (h1 h).eq (k1 h)
  · rw [h2 h, k2 h]
theorem T.same_sums {E v x : Int} {S : Int → Prop} (h1 : E = 0 → ∃ acc, Canon S acc ∧ v = sumL acc) (h2 : E ≠ 0 → v = 0) (k1 : E = 0 → ∃ acc, Canon S acc ∧ x = sumL acc) (k2 : E ≠ 0 → x = 0) : v = x := by
  by_cases h : E = 0
  · obtain ⟨a, ha, rfl⟩ := h1 h
    obtain ⟨b, hb, rfl⟩ := k1 h
    rw [ha.eq hb]
  · rw [h2 h, k2 h]
set_option maxHeartbeats 4000000 in
theorem spans_none (hset : SetC) (A A2 : Option Addr) (c c2 m m2 : Nat) (a b : List SV) (w : World) (hT : Tab w) (ha : SpIn w w.heap.size A c a) (hb : SpIn w w.heap.size A2 c2 b) (ham : a.length = m) (hbm : b.length = m2) (hf : T.farV m = false) (hf2 : T.farV m2 = false) (h0 : m = 0 ∨ m2 = 0) :
    Calls Tryd.prog 4 #[.slice A m c, .slice A2 m2 c2] w fun e w' => e = .returned (.bool true) ∧ Below w.heap.size w w' := by
  have HS := Lib.hid hset
  have HT := Lib.hid hT
  have HA := Lib.hid ha
  have HB := Lib.hid hb
  have Ham := Lib.hid ham
  have Hbm := Lib.hid hbm
  have F1 := Lib.hid (fun w => far_any A c m w)
  have F2 := Lib.hid (fun w => far_any A2 c2 m2 w)
  have G1 : Hid (T.listE m a = 0 → ∀ t, T.In a t → 0 ≤ t ∧ t < T.big) := Lib.hid (fun h t => (T.listE_good h ha.nums).2.within t)
  have G2 : Hid (T.listsE m m2 a b = 0 → ∀ t, (T.In a t ∧ ¬ T.In b t) → 0 ≤ t ∧ t < T.big) := Lib.hid (fun h t ht => (T.listsE_good h ha.nums hb.nums).2.2.1.within t ht.1)
  have hle := ha.le
  have hcm := ha.cap
  have hle2 := hb.le
  have hcm2 := hb.cap
  unfold maxLen at hcm hcm2
  rw [ham] at hle
  rw [hbm] at hle2
  rw [hf] at F1
  rw [hf2] at F2
  clear hset hT ha hb ham hbm hf hf2
  obtain ⟨E, hE⟩ : ∃ E, T.listE m a = E := ⟨_, rfl⟩
  obtain ⟨E2, hE2⟩ : ∃ E2, T.listsE m m2 a b = E2 := ⟨_, rfl⟩
  have U1 := fun w h => Union_any A c m a w h Ham.out
  have U2 := fun w h => RUnion_of HS.out A c m a w h Ham.out
  have M1 := fun w h h' => Minus_any A A2 c c2 m m2 a b w h h' Ham.out Hbm.out
  have M2 := fun w h h' => RMinus_of HS.out A A2 c c2 m m2 a b w h h' Ham.out Hbm.out
  have T1 := fun w h => Total_any A c m a w h Ham.out
  have T2 := fun w h => RTotal_of HS.out A c m a w h Ham.out
  rw [hE] at G1
  rw [hE2] at G2
  simp only [hE] at U1 U2 T1 T2
  simp only [hE2] at M1 M2
  clear hE hE2
  replace U1 := Lib.hid U1
  replace U2 := Lib.hid U2
  replace M1 := Lib.hid M1
  replace M2 := Lib.hid M2
  replace T1 := Lib.hid T1
  replace T2 := Lib.hid T2
  go_enter Tryd.func4, Tryd.ntmps4
  go_wp2_with fail
  refine (F1.out _).mono ?_
  rintro e w' ⟨rfl, rfl⟩
  go_wp2_with fail
  refine (F2.out _).mono ?_
  rintro e w' ⟨rfl, rfl⟩
  have h1 : m = 0 ∨ (0 < m ∧ m2 = 0) := by omega
  clear h0
  rcases h1 with rfl | ⟨h1, rfl⟩
  all_goals
    go_wp2_with fail
    refine (U1.out w HA.out).mono ?_
    intro e w1 hp
    obtain ⟨Au, cu, Mu, u, rfl, hsu, hmu, hcu, hnu, hb1⟩ := hp.rd G1.out
    have HSu := Lib.hid hsu
    have Hmu := Lib.hid hmu
    have Hcu := Lib.hid hcu
    have Hnu := Lib.hid hnu
    clear hp hsu hmu hcu hnu
    go_wp2_with fail
    refine (U2.out w1 (HA.out.on hb1)).mono ?_
    intro e w2 hp
    obtain ⟨Av, cv, Mv, u', rfl, hsv, hmv, hcv, hnv, hb⟩ := hp.rd G1.out
    have hb2 := bt hb1 hb1.size hb
    have heq := T.same_lists Hcu.out Hnu.out hcv hnv
    have hmm : Mv = Mu := by rw [← hmv, ← Hmu.out, heq]
    rw [← heq] at hsv
    rw [hmm]
    have HSu2 := Lib.hid (HSu.out.on hb)
    have HSv2 := Lib.hid hsv
    clear hp hsv hmv hcv hnv hb hb1 heq hmm HSu
    go_wp2_with fail
    refine (M1.out w2 (HA.out.on hb2) (HB.out.on hb2)).mono ?_
    intro e w3 hp
    obtain ⟨Am, cm, Mm, r, rfl, hsm, hmm, hcm', hnm, hb⟩ := hp.rd G2.out
    have hb3 := bt hb2 hb2.size hb
    have HSu3 := Lib.hid (HSu2.out.on hb)
    have HSv3 := Lib.hid (HSv2.out.on hb)
    have HSm3 := Lib.hid hsm
    have Hmm := Lib.hid hmm
    have Hcm := Lib.hid hcm'
    have Hnm := Lib.hid hnm
    clear hp hsm hmm hcm' hnm hb hb2 HSu2 HSv2
    go_wp2_with fail
    refine (M2.out w3 (HA.out.on hb3) (HB.out.on hb3)).mono ?_
    intro e w4 hp
    obtain ⟨An, cn, Mn, r', rfl, hsn, hmn, hcn, hnn, hb⟩ := hp.rd G2.out
    have hb4 := bt hb3 hb3.size hb
    have heq := T.same_lists Hcm.out Hnm.out hcn hnn
    have hme : Mn = Mm := by rw [← hmn, ← Hmm.out, heq]
    rw [← heq] at hsn
    rw [hme]
    have HSu4 := Lib.hid (HSu3.out.on hb)
    have HSv4 := Lib.hid (HSv3.out.on hb)
    have HSm4 := Lib.hid (HSm3.out.on hb)
    have HSn4 := Lib.hid hsn
    clear hp hsn hmn hcn hnn hb hb3 heq hme HSu3 HSv3 HSm3
    go_wp2_with fail
    refine (T1.out w4 (HA.out.on hb4)).mono ?_
    rintro e w5 ⟨V, he, k1, k2, hb⟩
    unfold T.pr at he
    subst he
    have hb5 := bt hb4 hb4.size hb
    have K1 := Lib.hid k1
    have K2 := Lib.hid k2
    have HSu5 := Lib.hid (HSu4.out.on hb)
    have HSv5 := Lib.hid (HSv4.out.on hb)
    have HSm5 := Lib.hid (HSm4.out.on hb)
    have HSn5 := Lib.hid (HSn4.out.on hb)
    clear k1 k2 hb hb4 HSu4 HSv4 HSm4 HSn4
    go_wp2_with fail
    refine (T2.out w5 (HA.out.on hb5)).mono ?_
    rintro e w6 ⟨V', he, k1, k2, hb⟩
    unfold T.pr at he
    subst he
    have hb6 := bt hb5 hb5.size hb
    have heq := T.same_sums K1.out K2.out k1 k2
    rw [← heq]
    have HSu6 := Lib.hid (HSu5.out.on hb)
    have HSv6 := Lib.hid (HSv5.out.on hb)
    have HSm6 := Lib.hid (HSm5.out.on hb)
    have HSn6 := Lib.hid (HSn5.out.on hb)
    clear k1 k2 hb hb5 heq HSu5 HSv5 HSm5 HSn5
    go_wp2_with fail
    refine (RSame_eq Au Av cu cv Mu u w6 HSu6.out HSv6.out Hmu.out).mono ?_
    rintro e w7 ⟨rfl, hb⟩
    have hb7 := bt hb6 hb6.size hb
    have HSm7 := Lib.hid (HSm6.out.on hb)
    have HSn7 := Lib.hid (HSn6.out.on hb)
    clear hb hb6 HSu6 HSv6 HSm6 HSn6
    go_wp2_with fail
    refine (RSame_eq Am An cm cn Mm r w7 HSm7.out HSn7.out Hmm.out).mono ?_
    rintro e w8 ⟨rfl, hb⟩
    have hb8 := bt hb7 hb7.size hb
    have HW := Lib.hid (awake_any w8 (HT.out.on hb8))
    clear hb hb7 HSm7 HSn7
    go_wp2_with fail
    refine HW.out.mono ?_
    rintro e w9 ⟨rfl, hb⟩
    have hb9 := bt hb8 hb8.size hb
    go_wp2_with fail
    go_ret
    exact ⟨rfl, hb9⟩
end Go.Proofs.YtnehllkklmdpfaaDoor
