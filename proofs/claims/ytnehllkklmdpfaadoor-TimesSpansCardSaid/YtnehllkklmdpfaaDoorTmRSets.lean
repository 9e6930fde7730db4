/- The reference's Minus and Union, over a contract of its set. -/
import Derived.Test.YtnehllkklmdpfaaDoorTmMeet
import Derived.Test.YtnehllkklmdpfaaDoorTmTotal
import Derived.Deep.Quiet
import Derived.Deep.QuietTactic
namespace Go.Proofs.YtnehllkklmdpfaaDoor
open Go.RowKit
open T (SV)
set_option linter.unusedSimpArgs false
set_option maxRecDepth 100000
/-- What the reference's set answers for two lists that are good. -/
def SetC : Prop := ∀ (A A2 : Option Addr) (c c2 m m2 : Nat) (a b : List SV) (w : World), SpIn w w.heap.size A c a → SpIn w w.heap.size A2 c2 b → a.length = m → b.length = m2 → m ≤ 200 → m2 ≤ 200 → T.Good a → T.Good b →
  Calls Tryd.prog 43 #[.slice A m c, .slice A2 m2 c2] w fun e w' => ∃ v acc, e = .returned v ∧ OwnSp w' w.heap.size v acc ∧ T.Canon (fun t => T.In a t ∧ ¬ T.In b t) acc ∧ Below w.heap.size w w'
theorem T.errL_app : ∀ (a b : List SV), errL (a ++ b) = if errL a = 0 then errL b else errL a
  | [], b => rfl
  | s :: a, b => by
    show (if checkE s.1 s.2 = 0 then errL (a ++ b) else checkE s.1 s.2) = if (if checkE s.1 s.2 = 0 then errL a else checkE s.1 s.2) = 0 then errL b else (if checkE s.1 s.2 = 0 then errL a else checkE s.1 s.2)
    by_cases h : checkE s.1 s.2 = 0
    · simp only [if_pos h]; exact T.errL_app a b
    · simp only [if_neg h]
set_option maxHeartbeats 2000000 in
theorem RMinus_of (hset : SetC) (A A2 : Option Addr) (c c2 m m2 : Nat) (a b : List SV) (w : World) (hl : SpIn w w.heap.size A c a) (hl2 : SpIn w w.heap.size A2 c2 b) (hm : a.length = m) (hm2 : b.length = m2) :
    Calls Tryd.prog 27 #[.slice A m c, .slice A2 m2 c2] w (SetPost (T.listsE m m2 a b) (fun t => T.In a t ∧ ¬ T.In b t) (m + m2) w) := by
  have HS := Lib.hid hset
  have HL := Lib.hid hl
  have HL2 := Lib.hid hl2
  have Hm := Lib.hid hm
  have Hm2 := Lib.hid hm2
  have hc1 : m ≤ c := by have := hl.le; omega
  have hc2 : m2 ≤ c2 := by have := hl2.le; omega
  have hcm := hl.cap
  have hcm2 := hl2.cap
  unfold maxLen at hcm hcm2
  have HR := Lib.hid (Rlist_any A c m a w hl hm)
  have HBad : Hid (∀ (E : Int) (w1 : World), E ≠ 0 → E = T.listsE m m2 a b → Below w.heap.size w w1 → SetPost (T.listsE m m2 a b) (fun t => T.In a t ∧ ¬ T.In b t) (m + m2) w (.returned (.tuple #[.slice none 0 0, .int .i64 E])) w1) :=
    Lib.hid (fun E w1 h0 hE hb => ⟨.slice none 0 0, [], by rw [hE], World.ownsRow_nil _ _ _ _, fun h => absurd (hE.trans h) h0, fun _ => rfl, Nat.zero_le _, hb⟩)
  have HA := Lib.hid (T.errL_app a b)
  clear hset hl hl2 hm hm2
  by_cases h1 : 200 < m
  · have HF := Lib.hid (HBad.out 3 w (by decide) (by unfold T.listsE; rw [if_pos h1]) (Below.refl _ _))
    clear HBad
    go_enter Tryd.func27, Tryd.ntmps27
    go_wp2_with fail
    go_ret2
    exact HF.out
  by_cases h2 : 200 < m2
  · have HF := Lib.hid (HBad.out 3 w (by decide) (by unfold T.listsE; rw [if_neg h1, if_pos h2]) (Below.refl _ _))
    clear HBad
    go_enter Tryd.func27, Tryd.ntmps27
    go_wp2_with fail
    go_ret2
    exact HF.out
  have hE : T.listsE m m2 a b = if T.errL a = 0 then T.errL b else T.errL a := by
    unfold T.listsE; rw [if_neg h1, if_neg h2]; exact HA.out
  have HE := Lib.hid hE
  obtain ⟨E1, hE1⟩ : ∃ E1, T.errL a = E1 := ⟨_, rfl⟩
  have HE1 := Lib.hid hE1
  rw [hE1] at HR
  clear hE hE1 HA
  by_cases h0 : E1 = 0
  · subst h0
    go_enter Tryd.func27, Tryd.ntmps27
    go_wp2_with fail
    refine HR.out.mono ?_
    rintro e w1 ⟨rfl, hb⟩
    have HB1 := Lib.hid hb
    have HR2 := Lib.hid (Rlist_any A2 c2 m2 b w1 (HL2.out.on hb) Hm2.out)
    obtain ⟨E2, hE2⟩ : ∃ E2, T.errL b = E2 := ⟨_, rfl⟩
    rw [hE2] at HR2
    have HE2 : Hid (T.listsE m m2 a b = E2) := Lib.hid (by rw [HE.out, HE1.out, if_pos rfl, hE2])
    clear hb HR hE2
    by_cases h3 : E2 = 0
    · subst h3
      have HG := Lib.hid (T.listsE_good HE2.out HL.out.nums HL2.out.nums)
      go_wp2_with fail
      refine HR2.out.mono ?_
      rintro e w2 ⟨rfl, hb⟩
      have hb2 := bt HB1.out HB1.out.size hb
      have HB2 := Lib.hid hb2
      have HC := Lib.hid (HS.out A A2 c c2 m m2 a b w2 (HL.out.on hb2) (HL2.out.on hb2) Hm.out Hm2.out HG.out.1 HG.out.2.1 HG.out.2.2.1 HG.out.2.2.2)
      clear hb hb2 HR2
      go_wp2_with fail
      refine HC.out.mono ?_
      rintro e w3 ⟨v, acc, rfl, hown, hcan, hb⟩
      have HF : Hid (SetPost (T.listsE m m2 a b) (fun t => T.In a t ∧ ¬ T.In b t) (m + m2) w (.returned (.tuple #[v, .int .i64 0])) w3) := Lib.hid
        ⟨v, acc, by rw [HE2.out], hown.mono HB2.out.size, fun _ => hcan, fun h => absurd HE2.out h, by rw [← Hm.out, ← Hm2.out]; exact T.canon_len hcan, bt HB2.out HB2.out.size hb⟩
      clear hown hcan hb
      go_wp2_with fail
      go_ret2
      exact HF.out
    · go_wp2_with fail
      refine HR2.out.mono ?_
      rintro e w2 ⟨rfl, hb⟩
      have HF := Lib.hid (HBad.out E2 w2 h3 HE2.out.symm (bt HB1.out HB1.out.size hb))
      clear hb
      go_wp2_with fail
      go_ret2
      exact HF.out
  · go_enter Tryd.func27, Tryd.ntmps27
    go_wp2_with fail
    refine HR.out.mono ?_
    rintro e w1 ⟨rfl, hb⟩
    have HF := Lib.hid (HBad.out E1 w1 h0 (by rw [HE.out, HE1.out, if_neg h0]) hb)
    clear hb
    go_wp2_with fail
    go_ret2
    exact HF.out
theorem T.listsE_nil (m : Nat) (l : List SV) : listsE m 0 l [] = listE m l := by
  unfold listsE listE; rw [List.append_nil, if_neg (show ¬ 200 < 0 by decide)]
/-- What the reference's Union answers. -/
theorem RUnion_of (hset : SetC) (A : Option Addr) (c m : Nat) (l : List SV) (w : World) (hl : SpIn w w.heap.size A c l) (hm : l.length = m) :
    Calls Tryd.prog 25 #[.slice A m c] w (SetPost (T.listE m l) (T.In l) m w) := by
  have HM := Lib.hid (RMinus_of hset A none c 0 m 0 l [] w hl (SpIn.nil_ _ _) hm rfl)
  rw [T.listsE_nil] at HM
  obtain ⟨E, hE⟩ : ∃ E, T.listE m l = E := ⟨_, rfl⟩
  rw [hE] at HM ⊢
  clear hE hl hset hm
  go_enter Tryd.func25, Tryd.ntmps25
  go_wp2_with fail
  refine HM.out.mono ?_
  rintro e w1 ⟨v, acc, rfl, hown, hcan, hno, hlen, hb⟩
  have HF : Hid (SetPost E (T.In l) m w (.returned (.tuple #[v, .int .i64 E])) w1) := Lib.hid ⟨v, acc, rfl, hown, fun h => (hcan h).of (fun t => ⟨fun h => h.1, fun h => ⟨h, T.in_nil t⟩⟩), hno, hlen, hb⟩
  clear hown hcan hno hlen hb
  go_wp2_with fail
  go_ret2
  exact HF.out
set_option maxHeartbeats 2000000 in
theorem RTotal_of (hset : SetC) (A : Option Addr) (c m : Nat) (l : List SV) (w : World) (hl : SpIn w w.heap.size A c l) (hm : l.length = m) :
    Calls Tryd.prog 29 #[.slice A m c] w (TotalPost (T.listE m l) (T.In l) w) := by
  have HU := Lib.hid (RUnion_of hset A c m l w hl hm)
  have HGD := Lib.hid (fun h => T.listE_good (m := m) (l := l) h hl.nums)
  obtain ⟨E, hE⟩ : ∃ E, T.listE m l = E := ⟨_, rfl⟩
  rw [hE] at HU HGD ⊢
  clear hE hl hset hm
  go_enter Tryd.func29, Tryd.ntmps29
  go_wp2_with fail
  refine HU.out.mono ?_
  rintro e w2 ⟨v, acc, rfl, hown, hcan, hno, -, hb2⟩
  have hgd : T.Asc acc ∧ T.Good acc := by
    by_cases h0 : E = 0
    · exact ⟨(hcan h0).asc, (hcan h0).good (HGD.out h0).2.within⟩
    · rw [hno h0]; exact ⟨T.Asc.nil, fun s hs => by cases hs⟩
  obtain ⟨A3, c3, rfl, hsp⟩ := hown.reads hgd.2.nums
  have HSp := Lib.hid hsp
  have HAsc := Lib.hid hgd.1
  have HGd := Lib.hid hgd.2
  have HB2 := Lib.hid hb2
  have HCan := Lib.hid hcan
  have HNo := Lib.hid hno
  have hle := hsp.le
  have hcm := hsp.cap
  unfold maxLen at hcm
  obtain ⟨M, hM⟩ : ∃ M, acc.length = M := ⟨_, rfl⟩
  have HM := Lib.hid hM
  rw [hM] at hle ⊢
  clear hown hcan hno hgd hb2 hsp hM HU HGD
  go_wp2_with fail
  go_loopw [6, 7] (fun t i wr => ∃ (k : Nat) (S : Int), k ≤ M ∧ i = .int .i64 k ∧ t = .int .i64 S ∧ Hid (S = T.sumL (acc.take k)) ∧ Hid (Below w2.heap.size w2 wr)) (fun _ i _ => M - (intOf i).toNat)
  case atStart => exact ⟨0, 0, Nat.zero_le _, rfl, rfl, Lib.hid rfl, Lib.hid (Below.refl _ _)⟩
  case round =>
    obtain ⟨k, S, hk, rfl, rfl, hS, hbel⟩ := hrel
    by_cases hlt : k < M
    · have hkf : k < acc.length := by rw [HM.out]; exact hlt
      obtain ⟨ad, rfl, hlb, c0, c1⟩ := (HSp.out.below hbel.out).at_ hkf
      obtain ⟨p, q, hs⟩ : ∃ p q, acc[k]'hkf = (p, q) := ⟨_, _, rfl⟩
      have hgs := HGd.out (p, q) (by rw [← hs]; exact List.getElem_mem hkf)
      have ht := T.sumL_take hkf
      have h1 := T.sumL_take_le HAsc.out HGd.out k
      have h2 := T.sumL_take_le HAsc.out HGd.out (k + 1)
      rw [ht] at h2
      rw [← hS.out] at h1 h2 ht
      rw [hs] at c0 c1 ht h2
      rw [addr_one] at c1
      simp only at ht h2 hgs
      unfold T.big at h1 h2 hgs
      obtain ⟨V, w1'⟩ : ∃ V, IntKind.i64.wrap (S + q) = V := ⟨_, rfl⟩
      have w2' : IntKind.i64.wrap (V - p) = S + q - p := by
        rw [← w1', IntKind.wrap_i64, IntKind.wrap_i64]; omega
      have HT : Hid (S + q - p = T.sumL (acc.take (k + 1))) := Lib.hid (by rw [ht]; omega)
      clear hs ht h1 h2 hgs
      go_wp2_with fail
      go_quiet (fail)
      go_wp2_with fail
      go_roundw
      case rel => exact ⟨k + 1, _, by omega, by go_num, rfl, HT, Lib.hid (below_dn hbel.out _)⟩
      case measure => simp [intOf]; omega
    · have hF : S = T.sumL acc := by
        have := hS.out
        rwa [List.take_of_length_le (by rw [HM.out]; omega)] at this
      have HF : Hid (TotalPost E (T.In l) w (.returned (.tuple #[.int .i64 S, .int .i64 E])) wr) := Lib.hid ⟨S, rfl, fun h => ⟨acc, HCan.out h, hF⟩, fun h => by rw [hF, HNo.out h]; rfl, bt HB2.out HB2.out.size hbel.out⟩
      clear hF
      go_wp2_with fail
      go_ret2
      exact HF.out
end Go.Proofs.YtnehllkklmdpfaaDoor
