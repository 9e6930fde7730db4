/- The contract of Total. -/
import Derived.Test.YtnehllkklmdpfaaDoorTmSets
namespace Go.Proofs.YtnehllkklmdpfaaDoor
open Go.RowKit Go.Shelf
open T (SV)
set_option linter.unusedSimpArgs false
set_option maxRecDepth 100000
def TotalPost (E : Int) (S : Int → Prop) (w : World) (e : Ending) (w' : World) : Prop := ∃ v, e = T.pr v E ∧ (E = 0 → ∃ acc, T.Canon S acc ∧ v = T.sumL acc) ∧ (E ≠ 0 → v = 0) ∧ Below w.heap.size w w'
theorem T.sumL_take {l : List SV} {k : Nat} (h : k < l.length) : sumL (l.take (k + 1)) = sumL (l.take k) + ((l[k]).2 - (l[k]).1) := by
  rw [(List.take_append_getElem h).symm, sumL_snoc]
theorem T.sumL_take_le {l : List SV} (h : Asc l) (g : Good l) (k : Nat) : 0 ≤ sumL (l.take k) ∧ sumL (l.take k) ≤ big :=
  sumL_good ⟨fun s hs => h.some_ s (List.mem_of_mem_take hs), h.apart.sublist (List.take_sublist _ _)⟩ (fun s hs => g s (List.mem_of_mem_take hs))
set_option maxHeartbeats 2000000 in
theorem Total_any (A : Option Addr) (c m : Nat) (l : List SV) (w : World) (hl : SpIn w w.heap.size A c l) (hm : l.length = m) :
    Calls Tryd.prog 28 #[.slice A m c] w (TotalPost (T.listE m l) (T.In l) w) := by
  have HL := Lib.hid hl
  have Hm := Lib.hid hm
  have HC := Lib.hid (checkLists_one w.heap.size 1 A c m l (w.alloc (.cells #[.slice A m c] 29)) (made_one w _ _) (hl.on (below_new _ _)) hm)
  have HN := Lib.hid hl.nums
  have hb0 : Below w.heap.size w (w.alloc (.cells #[.slice A m c] 29)) := below_new _ _
  have HB0 := Lib.hid hb0
  obtain ⟨E, hE⟩ : ∃ E, T.listE m l = E := ⟨_, rfl⟩
  rw [hE] at HC ⊢
  clear hl hm hb0
  by_cases h0 : E = 0
  · subst h0
    have HG := Lib.hid (T.listE_good hE HN.out)
    clear hE
    go_enter Tryd.func28, Tryd.ntmps28
    go_wp2_with fail
    refine HC.out.mono ?_
    rintro e w1 ⟨rfl, hb⟩
    have hb1 : Below w.heap.size w w1 := bt HB0.out HB0.out.size hb
    have HJ := Lib.hid (joined_any A c m l w1 (HL.out.on hb1) Hm.out (by have := HG.out.1; omega) HG.out.2)
    have HB1 := Lib.hid hb1
    clear hb hb1
    go_wp2_with fail
    refine HJ.out.mono ?_
    rintro e w2 ⟨v, acc, rfl, hown, hcan, hb2⟩
    have hg := hcan.good HG.out.2.within
    obtain ⟨A3, c3, rfl, hsp⟩ := hown.reads hg.nums
    have hb2' := bt HB1.out HB1.out.size hb2
    have HSp := Lib.hid hsp
    have HCan := Lib.hid hcan
    have HGd := Lib.hid hg
    have HB2 := Lib.hid hb2'
    have hle := hsp.le
    have hcm := hsp.cap
    unfold maxLen at hcm
    obtain ⟨M, hM⟩ : ∃ M, acc.length = M := ⟨_, rfl⟩
    have HM := Lib.hid hM
    rw [hM] at hle ⊢
    clear hown hcan hg hb2 hb2' hsp hM HJ
    go_wp2_with fail
    go_loopw [5, 17] (fun t i wr => ∃ (k : Nat) (S : Int), k ≤ M ∧ i = .int .i64 k ∧ t = .int .i64 S ∧ Hid (S = T.sumL (acc.take k)) ∧ Hid (Below w2.heap.size w2 wr)) (fun _ i _ => M - (intOf i).toNat)
    case atStart => exact ⟨0, 0, Nat.zero_le _, rfl, rfl, Lib.hid rfl, Lib.hid (Below.refl _ _)⟩
    case round =>
      obtain ⟨k, S, hk, rfl, rfl, hS, hbel⟩ := hrel
      by_cases hlt : k < M
      · have hkf : k < acc.length := by rw [HM.out]; exact hlt
        obtain ⟨ad, rfl, hlb, c0, c1⟩ := (HSp.out.below hbel.out).at_ hkf
        obtain ⟨p, q, hs⟩ : ∃ p q, acc[k]'hkf = (p, q) := ⟨_, _, rfl⟩
        have hgs := HGd.out (p, q) (by rw [← hs]; exact List.getElem_mem hkf)
        have ht := T.sumL_take hkf
        have h1 := T.sumL_take_le HCan.out.asc HGd.out k
        have h2 := T.sumL_take_le HCan.out.asc HGd.out (k + 1)
        rw [ht] at h2
        rw [← hS.out] at h1 h2 ht
        rw [hs] at c0 c1 ht h2
        rw [addr_one] at c1
        simp only at ht h2 hgs
        unfold T.big at h1 h2 hgs
        have w1' : IntKind.i64.wrap (q - p) = q - p := IntWalk.i64_in _ (by omega)
        have w2' : IntKind.i64.wrap (S + (q - p)) = S + (q - p) := IntWalk.i64_in _ (by omega)
        have HT : Hid (S + (q - p) = T.sumL (acc.take (k + 1))) := Lib.hid ht.symm
        have hsz := hbel.out.size
        have HBa : Hid (Below w2.heap.size w2 (wr.alloc (.cells #[.int .i64 p, .int .i64 q] 32))) := Lib.hid (hbel.out.alloc hsz _)
        clear hs ht h1 h2 hgs
        go_wp2_with fail
        go_roundw
        case rel => exact ⟨k + 1, _, by omega, by go_num, rfl, HT, HBa⟩
        case measure => simp [intOf]; omega
      · have hF : S = T.sumL acc := by
          have := hS.out
          rwa [List.take_of_length_le (by rw [HM.out]; omega)] at this
        have HF : Hid (TotalPost 0 (T.In l) w (.returned (.tuple #[.int .i64 S, .int .i64 0])) wr) := Lib.hid ⟨S, rfl, fun _ => ⟨acc, HCan.out, hF⟩, fun h => absurd rfl h, bt HB2.out HB2.out.size hbel.out⟩
        clear hF
        go_wp2_with fail
        go_ret2
        exact HF.out
  · clear hE
    go_enter Tryd.func28, Tryd.ntmps28
    go_wp2_with fail
    refine HC.out.mono ?_
    rintro e w1 ⟨rfl, hb⟩
    have hb1 : Below w.heap.size w w1 := bt HB0.out HB0.out.size hb
    have HF : Hid (TotalPost E (T.In l) w (.returned (.tuple #[.int .i64 0, .int .i64 E])) w1) := Lib.hid ⟨0, rfl, fun h => absurd h h0, fun _ => rfl, hb1⟩
    clear hb hb1
    go_wp2_with fail
    go_ret2
    exact HF.out
end Go.Proofs.YtnehllkklmdpfaaDoor
