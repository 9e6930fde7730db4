/- The walk of TimesSame. -/
import Derived.Test.YteeibhooppmbmaaDoorTmFar
namespace Go.Proofs.YteeibhooppmbmaaDoor
open Go.RowKit
open T (SV)
set_option linter.unusedSimpArgs false
set_option maxRecDepth 100000
theorem T.rev_step {a : List SV} {j : Nat} (h : j < a.length) : (a.drop j).reverse = (a.drop (j + 1)).reverse ++ [a[j]] := by
  rw [List.drop_eq_getElem_cons h, List.reverse_cons]
theorem T.in_rev (a : List SV) (t : Int) : In a.reverse t ↔ In a t := in_perm (fun s => by simp) t
theorem T.Good.rev {a : List SV} (h : Good a) : Good a.reverse := fun s hs => h s (by simpa using hs)
set_option maxHeartbeats 4000000 in
theorem same_main (A A2 : Option Addr) (c c2 m m2 : Nat) (a b : List SV) (w : World) (hT : Tab w) (ha : SpIn w w.heap.size A c a) (hb : SpIn w w.heap.size A2 c2 b) (ham : a.length = m) (hbm : b.length = m2) (hf : T.farV m = false) (hf2 : T.farV m2 = false) (h60 : m ≤ 60) (h602 : m2 ≤ 60) (hga : T.Good a) (hgb : T.Good b) :
    Calls Tryd.prog 9 #[.slice A m c, .slice A2 m2 c2] w fun e w' => e = .returned (.bool true) ∧ Below w.heap.size w w' := by
  have HT := Lib.hid hT
  have HA := Lib.hid ha
  have HB := Lib.hid hb
  have Ham := Lib.hid ham
  have Hbm := Lib.hid hbm
  have HGa := Lib.hid hga
  have HGb := Lib.hid hgb
  have F1 := Lib.hid (fun w => far_any A c m w)
  have F2 := Lib.hid (fun w => far_any A2 c2 m2 w)
  have hle := ha.le
  have hcm := ha.cap
  unfold maxLen at hcm
  rw [ham] at hle
  rw [hf] at F1
  rw [hf2] at F2
  clear hT ha hb ham hbm hga hgb hf hf2
  go_enter Tryd.func9, Tryd.ntmps9
  go_wp2_with fail
  refine (F1.out _).mono ?_
  rintro e w' ⟨rfl, rfl⟩
  go_wp2_with fail
  refine (F2.out _).mono ?_
  rintro e w' ⟨rfl, rfl⟩
  go_wp2_with fail
  refine (Union_any A c m a w HA.out Ham.out).mono ?_
  rintro e w1 ⟨v1, u, rfl, hown, hc, _, _, hb1⟩
  have e1 := T.listE_of (by omega : m ≤ 200) HGa.out
  have hcu := hc e1
  have hgu := hcu.good HGa.out.within
  have hlu := T.canon_len_union hcu
  rw [e1]
  obtain ⟨Au, cu, rfl, hsu⟩ := hown.reads hgu.nums
  have HCu := Lib.hid hcu
  have HGu := Lib.hid hgu
  have HSu := Lib.hid hsu
  have HA1 := Lib.hid (HA.out.on hb1)
  have HB1 := Lib.hid (HB.out.on hb1)
  obtain ⟨mu, hmu⟩ : ∃ mu, u.length = mu := ⟨_, rfl⟩
  have Hmu := Lib.hid hmu
  rw [hmu, Ham.out] at hlu
  rw [hmu]
  clear hown hc hcu hgu hsu hmu e1 F1 F2
  go_wp2_with fail
  refine (Minus_good HA1.out HB1.out Ham.out Hbm.out (by omega) (by omega) HGa.out HGb.out).mono ?_
  rintro e w2 ⟨ml, Am, cm, hcm2, rfl, hsm, hb⟩
  have hb2 := bt hb1 hb1.size hb
  have hgm := hcm2.good (fun t h => HGa.out.within t h.1)
  have hlm := T.canon_len hcm2
  have HCm := Lib.hid hcm2
  have HGm := Lib.hid hgm
  have HSm := Lib.hid hsm
  have HSu2 := Lib.hid (HSu.out.on hb)
  have HA2 := Lib.hid (HA1.out.on hb)
  obtain ⟨mm, hmm⟩ : ∃ mm, ml.length = mm := ⟨_, rfl⟩
  have Hmm := Lib.hid hmm
  rw [hmm, Ham.out, Hbm.out] at hlm
  rw [hmm]
  clear hcm2 hgm hsm hb hb1 hmm HSu HA1 HB1
  have hw1 : IntKind.i64.wrap ((m : Int) - 1) = (m : Int) - 1 := IntWalk.i64_in _ (by omega)
  go_wp2_with fail
  go_loopw [9, 10] (fun v i wr => ∃ j : Nat, j ≤ m ∧ i = .int .i64 ((j : Int) - 1) ∧ Hid (OwnSp wr w2.heap.size v (a.drop j).reverse) ∧ Hid (Below w2.heap.size w2 wr)) (fun _ i _ => (intOf i + 1).toNat)
  case atStart => exact ⟨m, Nat.le_refl _, rfl, Lib.hid (by rw [List.drop_eq_nil_of_le (by rw [Ham.out]; exact Nat.le_refl _)]; exact World.ownsRow_nil _ _ _ _), Lib.hid (Below.refl _ _)⟩
  case round =>
    obtain ⟨j, hj, rfl, hown, hbel⟩ := hrel
    cases j with
    | succ p =>
      rw [show (((p + 1 : Nat) : Int) - 1) = (p : Int) by omega]
      have hkf : p < a.length := by rw [Ham.out]; omega
      obtain ⟨ad, rfl, hlb, c0, c1⟩ := (HA2.out.below hbel.out).at_ hkf
      obtain ⟨x, y, hs⟩ : ∃ x y, a[p]'hkf = (x, y) := ⟨_, _, rfl⟩
      have hrev := T.rev_step hkf
      rw [hs] at c0 c1 hrev
      rw [addr_one] at c1
      have HRev := Lib.hid hrev
      have hsz := hbel.out.size
      have hw2 : IntKind.i64.wrap ((p : Int) - 1) = (p : Int) - 1 := IntWalk.i64_in _ (by omega)
      have HOwnA : Hid (OwnSp (wr.alloc (.cells #[.int .i64 x, .int .i64 y] 32)) w2.heap.size u9 (a.drop (p + 1)).reverse) := Lib.hid (hown.out.kept (below_new _ _))
      have HLen : Hid ((a.drop (p + 1)).reverse.length + 1 ≤ 1000000) := Lib.hid (by rw [List.length_reverse, List.length_drop, Ham.out]; omega)
      clear hs hrev
      go_wp2_with (at_builtin; refine wp_append_one rfl _ _ rfl w2.heap.size u9 (a.drop (p + 1)).reverse rfl HOwnA.out wr.heap.size 1 x y rfl ?c0 ?c1 HLen.out ?c3 ?_)
      case c3 => (try simp); omega
      intro v3 w3 hown3 hgrow
      have HO3 : Hid (OwnSp w3 w2.heap.size v3 (a.drop p).reverse) := Lib.hid (by rw [HRev.out]; exact hown3)
      have HB3 : Hid (Below w2.heap.size w2 w3) := Lib.hid ((hbel.out.alloc hsz _).grown hgrow (by simp; omega) (fun g hg => (HOwnA.out.lt g hg).1))
      clear hown3 hgrow c0 c1
      go_wp2_with fail
      go_roundw
      case rel => exact ⟨p, by omega, rfl, HO3, HB3⟩
      case measure => simp [intOf] <;> omega
    | zero =>
      rw [show (((0 : Nat) : Int) - 1) = -1 by omega]
      have hbr := bt hb2 hb2.size hbel.out
      obtain ⟨Ar, cr, rfl, hsr⟩ := hown.out.reads (T.Good.rev HGa.out).nums
      have HSr := Lib.hid hsr
      have HSu3 := Lib.hid (HSu2.out.on hbel.out)
      have HSm3 := Lib.hid (HSm.out.on hbel.out)
      have HA3 := Lib.hid (HA2.out.on hbel.out)
      have hrl : (List.drop 0 a).reverse.length = m := by rw [List.drop_zero, List.length_reverse, Ham.out]
      rw [hrl]
      have Hrl := Lib.hid hrl
      clear hsr hrl hown hbel hb2 hj
      go_wp2_with fail
      refine (Union_good HSu3.out Hmu.out (by omega) HGu.out (T.Good.asc_canon HCu.out.asc)).mono ?_
      rintro e w4 ⟨A4, c4, rfl, hs4, hb⟩
      have hb4 := bt hbr hbr.size hb
      have HS4 := Lib.hid hs4
      have HSr4 := Lib.hid (HSr.out.on hb)
      have HSu4 := Lib.hid (HSu3.out.on hb)
      have HSm4 := Lib.hid (HSm3.out.on hb)
      have HA4 := Lib.hid (HA3.out.on hb)
      rw [Hmu.out]
      clear hs4 hb hbr HSu3 HSr HSm3 HA3
      go_wp2_with fail
      refine (Union_good HSr4.out Hrl.out (by omega) (by rw [List.drop_zero]; exact T.Good.rev HGa.out) (by rw [List.drop_zero]; exact HCu.out.of fun t => (T.in_rev a t).symm)).mono ?_
      rintro e w5 ⟨A5, c5, rfl, hs5, hb⟩
      have hb5 := bt hb4 hb4.size hb
      have HS5 := Lib.hid hs5
      have HS45 := Lib.hid (HS4.out.on hb)
      have HSu5 := Lib.hid (HSu4.out.on hb)
      have HSm5 := Lib.hid (HSm4.out.on hb)
      have HA5 := Lib.hid (HA4.out.on hb)
      rw [Hmu.out]
      clear hs5 hb hb4 HSu4 HSr4 HSm4 HA4 HS4
      go_wp2_with fail
      refine (RSame_eq Au A4 cu c4 mu u w5 HSu5.out HS45.out Hmu.out).mono ?_
      rintro e w6 ⟨rfl, hb⟩
      have hb6 := bt hb5 hb5.size hb
      have HS56 := Lib.hid (HS5.out.on hb)
      have HSu6 := Lib.hid (HSu5.out.on hb)
      have HSm6 := Lib.hid (HSm5.out.on hb)
      have HA6 := Lib.hid (HA5.out.on hb)
      clear hb hb5 HS5 HS45 HSu5 HSm5 HA5
      go_wp2_with fail
      refine (RSame_eq Au A5 cu c5 mu u w6 HSu6.out HS56.out Hmu.out).mono ?_
      rintro e w7 ⟨rfl, hb⟩
      have hb7 := bt hb6 hb6.size hb
      have HSu7 := Lib.hid (HSu6.out.on hb)
      have HSm7 := Lib.hid (HSm6.out.on hb)
      have HA7 := Lib.hid (HA6.out.on hb)
      clear hb hb6 HS56 HSu6 HSm6 HA6
      go_wp2_with fail
      refine (Minus_good HA7.out HSm7.out Ham.out Hmm.out (by omega) (by omega) HGa.out HGm.out).mono ?_
      rintro e w8 ⟨gone, A8, c8, hcg, rfl, hsg, hb⟩
      have hb8 := bt hb7 hb7.size hb
      have hgg := hcg.good (fun t h => HGa.out.within t h.1)
      have hlg := T.canon_len hcg
      have hsum : T.sumL u = T.sumL ml + T.sumL gone := T.sum_split HCu.out HCm.out hcg HGa.out.within
      have hsb := T.sumL_good HCu.out.asc HGu.out
      have HSg := Lib.hid hsg
      have HGg := Lib.hid hgg
      have HCg := Lib.hid hcg
      have HSu8 := Lib.hid (HSu7.out.on hb)
      have HSm8 := Lib.hid (HSm7.out.on hb)
      have HA8 := Lib.hid (HA7.out.on hb)
      obtain ⟨mg, hmg⟩ : ∃ mg, gone.length = mg := ⟨_, rfl⟩
      have Hmg := Lib.hid hmg
      rw [hmg, Ham.out, Hmm.out] at hlg
      rw [hmg]
      clear hcg hsg hb hb7 hgg hmg HSu7 HSm7 HA7
      have T1 := Lib.hid (Total_good HA8.out Ham.out (by omega) HGa.out HCu.out)
      have T2 := Lib.hid (fun w (h : SpIn w w.heap.size Au cu u) => Total_good h Hmu.out (by omega) HGu.out (T.Good.asc_canon HCu.out.asc))
      have T3 := Lib.hid (fun w (h : SpIn w w.heap.size Am cm ml) => Total_good h Hmm.out (by omega) HGm.out (T.Good.asc_canon HCm.out.asc))
      have T4 := Lib.hid (fun w (h : SpIn w w.heap.size A8 c8 gone) => Total_good h Hmg.out (by omega) HGg.out (T.Good.asc_canon HCg.out.asc))
      generalize T.sumL u = s0 at T1 T2 hsum hsb
      generalize T.sumL ml = s1 at T3 hsum
      generalize T.sumL gone = s2 at T4 hsum
      unfold T.big at hsb
      have hw3 : IntKind.i64.wrap (s1 + s2) = s0 := by rw [← hsum]; exact IntWalk.i64_in _ (by omega)
      clear hsum
      go_wp2_with fail
      refine T1.out.mono ?_
      rintro e w9 ⟨rfl, hb⟩
      have hb9 := bt hb8 hb8.size hb
      have T2' := Lib.hid (T2.out w9 (HSu8.out.on hb))
      have HSm9 := Lib.hid (HSm8.out.on hb)
      have HSg9 := Lib.hid (HSg.out.on hb)
      clear hb hb8 T1 T2
      go_wp2_with fail
      refine T2'.out.mono ?_
      rintro e w10 ⟨rfl, hb⟩
      have hb10 := bt hb9 hb9.size hb
      have T3' := Lib.hid (T3.out w10 (HSm9.out.on hb))
      have HSg10 := Lib.hid (HSg9.out.on hb)
      clear hb hb9 T3 T2'
      go_wp2_with fail
      refine T3'.out.mono ?_
      rintro e w11 ⟨rfl, hb⟩
      have hb11 := bt hb10 hb10.size hb
      have T4' := Lib.hid (T4.out w11 (HSg10.out.on hb))
      clear hb hb10 T4 T3'
      go_wp2_with fail
      refine T4'.out.mono ?_
      rintro e w12 ⟨rfl, hb⟩
      have hb12 := bt hb11 hb11.size hb
      have HW := Lib.hid (awake_any w12 (HT.out.on hb12))
      clear hb hb11 T4'
      go_wp2_with fail
      refine HW.out.mono ?_
      rintro e w13 ⟨rfl, hb⟩
      have hb13 := bt hb12 hb12.size hb
      go_wp2_with fail
      go_ret
      exact ⟨rfl, hb13⟩
theorem same_off (A A2 : Option Addr) (c c2 m m2 : Nat) (a b : List SV) (w : World) (hT : Tab w) (ha : SpIn w w.heap.size A c a) (hb : SpIn w w.heap.size A2 c2 b) (ham : a.length = m) (hbm : b.length = m2) (hf : T.farV m = false) (hf2 : T.farV m2 = false) (hE : ¬ (T.listE m a = 0 ∧ T.listsE m m2 a b = 0)) :
    Calls Tryd.prog 9 #[.slice A m c, .slice A2 m2 c2] w fun e w' => e = .returned (.bool true) ∧ Below w.heap.size w w' := by
  have HT := Lib.hid hT
  have HU := Lib.hid (Union_any A c m a w ha ham)
  have HM := Lib.hid (fun w h h2 => Minus_any A A2 c c2 m m2 a b w h h2 ham hbm)
  have HA := Lib.hid ha
  have HB := Lib.hid hb
  have F1 := Lib.hid (fun w => far_any A c m w)
  have F2 := Lib.hid (fun w => far_any A2 c2 m2 w)
  rw [hf] at F1
  rw [hf2] at F2
  generalize T.listE m a = E1 at HU hE
  generalize T.listsE m m2 a b = E2 at HM hE
  clear hT ha hb ham hbm hf hf2
  by_cases h1 : E1 = 0
  · have h2 : (E2 == (0 : Int)) = false := by rw [beq_eq_false_iff_ne]; exact fun h => hE ⟨h1, h⟩
    subst h1
    clear hE
    go_enter Tryd.func9, Tryd.ntmps9
    go_wp2_with fail
    refine (F1.out _).mono ?_
    rintro e w' ⟨rfl, rfl⟩
    go_wp2_with fail
    refine (F2.out _).mono ?_
    rintro e w' ⟨rfl, rfl⟩
    go_wp2_with fail
    refine HU.out.mono ?_
    rintro e w1 ⟨v1, u, rfl, _, _, _, _, hb1⟩
    have HM1 := Lib.hid (HM.out w1 (HA.out.on hb1) (HB.out.on hb1))
    go_wp2_with fail
    refine HM1.out.mono ?_
    rintro e w2 ⟨v2, u2, rfl, _, _, _, _, hb⟩
    have hb2 := bt hb1 hb1.size hb
    have HW := Lib.hid (awake_any w2 (HT.out.on hb2))
    clear hb hb1
    go_wp2_with fail
    refine HW.out.mono ?_
    rintro e w13 ⟨rfl, hb⟩
    have hb13 := bt hb2 hb2.size hb
    go_wp2_with fail
    go_ret
    exact ⟨rfl, hb13⟩
  · have h2 : (E1 == (0 : Int)) = false := by rw [beq_eq_false_iff_ne]; exact h1
    clear hE
    go_enter Tryd.func9, Tryd.ntmps9
    go_wp2_with fail
    refine (F1.out _).mono ?_
    rintro e w' ⟨rfl, rfl⟩
    go_wp2_with fail
    refine (F2.out _).mono ?_
    rintro e w' ⟨rfl, rfl⟩
    go_wp2_with fail
    refine HU.out.mono ?_
    rintro e w1 ⟨v1, u, rfl, _, _, _, _, hb1⟩
    have HM1 := Lib.hid (HM.out w1 (HA.out.on hb1) (HB.out.on hb1))
    go_wp2_with fail
    refine HM1.out.mono ?_
    rintro e w2 ⟨v2, u2, rfl, _, _, _, _, hb⟩
    have hb2 := bt hb1 hb1.size hb
    have HW := Lib.hid (awake_any w2 (HT.out.on hb2))
    clear hb hb1
    go_wp2_with fail
    refine HW.out.mono ?_
    rintro e w13 ⟨rfl, hb⟩
    have hb13 := bt hb2 hb2.size hb
    go_wp2_with fail
    go_ret
    exact ⟨rfl, hb13⟩
theorem same_far (A A2 : Option Addr) (c c2 m m2 : Nat) (w : World) (hT : Tab w) (hf : T.farV m = true ∨ (T.farV m = false ∧ T.farV m2 = true)) :
    Calls Tryd.prog 9 #[.slice A m c, .slice A2 m2 c2] w fun e w' => e = .returned (.bool true) ∧ Below w.heap.size w w' := by
  have HW := Lib.hid (awake_any w hT)
  have F1 := Lib.hid (fun w => far_any A c m w)
  have F2 := Lib.hid (fun w => far_any A2 c2 m2 w)
  clear hT
  rcases hf with hf | ⟨hf, hf2⟩
  · rw [hf] at F1
    clear hf
    go_enter Tryd.func9, Tryd.ntmps9
    go_wp2_with fail
    refine (F1.out _).mono ?_
    rintro e w' ⟨rfl, rfl⟩
    go_wp2_with fail
    refine HW.out.mono ?_
    rintro e w13 ⟨rfl, hb⟩
    go_wp2_with fail
    go_ret
    exact ⟨rfl, hb⟩
  · rw [hf] at F1
    rw [hf2] at F2
    clear hf hf2
    go_enter Tryd.func9, Tryd.ntmps9
    go_wp2_with fail
    refine (F1.out _).mono ?_
    rintro e w' ⟨rfl, rfl⟩
    go_wp2_with fail
    refine (F2.out _).mono ?_
    rintro e w' ⟨rfl, rfl⟩
    go_wp2_with fail
    refine HW.out.mono ?_
    rintro e w13 ⟨rfl, hb⟩
    go_wp2_with fail
    go_ret
    exact ⟨rfl, hb⟩
theorem TimesSame_walk (A A2 : Option Addr) (c c2 m m2 : Nat) (a b : List SV) (w : World) (hT : Tab w) (ha : SpIn w w.heap.size A c a) (hb : SpIn w w.heap.size A2 c2 b) (ham : a.length = m) (hbm : b.length = m2) :
    Calls Tryd.prog 9 #[.slice A m c, .slice A2 m2 c2] w fun e w' => e = .returned (.bool true) ∧ Below w.heap.size w w' := by
  cases hf : T.farV m
  · cases hf2 : T.farV m2
    · by_cases hE : T.listE m a = 0 ∧ T.listsE m m2 a b = 0
      · have g := T.listsE_good hE.2 ha.nums hb.nums
        have k := T.small_of hf hf2 g.1 g.2.1
        exact same_main A A2 c c2 m m2 a b w hT ha hb ham hbm hf hf2 k.1 k.2 g.2.2.1 g.2.2.2
      · exact same_off A A2 c c2 m m2 a b w hT ha hb ham hbm hf hf2 hE
    · exact same_far A A2 c c2 m m2 w hT (Or.inr ⟨hf, hf2⟩)
  · exact same_far A A2 c c2 m m2 w hT (Or.inl hf)
end Go.Proofs.YteeibhooppmbmaaDoor
