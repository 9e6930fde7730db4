/- The contracts of Union, Minus and Total. -/
import Derived.Test.YtnehllkklmdpfaaDoorTmWithout
namespace Go.Proofs.YtnehllkklmdpfaaDoor
open Go.RowKit Go.Shelf
open T (SV)
set_option linter.unusedSimpArgs false
set_option maxRecDepth 100000
/-- A list of the program's own and an error: the list has the times S in its one form, or is empty. -/
def SetPost (E : Int) (S : Int → Prop) (n : Nat) (w : World) (e : Ending) (w' : World) : Prop := ∃ v acc, e = .returned (.tuple #[v, .int .i64 E]) ∧ OwnSp w' w.heap.size v acc ∧ (E = 0 → T.Canon S acc) ∧ (E ≠ 0 → acc = []) ∧ acc.length ≤ n ∧ Below w.heap.size w w'
theorem T.listE_good {m : Nat} {l : List SV} (h : listE m l = 0) (hn : ∀ s ∈ l, R64 s.1 ∧ R64 s.2) : m ≤ 200 ∧ Good l := by
  unfold listE at h
  by_cases h2 : 200 < m
  · rw [if_pos h2] at h; cases h
  · rw [if_neg h2] at h
    exact ⟨by omega, errL_good h hn⟩
theorem T.listsE_good {m m2 : Nat} {l l2 : List SV} (h : listsE m m2 l l2 = 0) (hn : ∀ s ∈ l, R64 s.1 ∧ R64 s.2) (hn2 : ∀ s ∈ l2, R64 s.1 ∧ R64 s.2) : m ≤ 200 ∧ m2 ≤ 200 ∧ Good l ∧ Good l2 := by
  unfold listsE at h
  by_cases h2 : 200 < m
  · rw [if_pos h2] at h; cases h
  · rw [if_neg h2] at h
    by_cases h3 : 200 < m2
    · rw [if_pos h3] at h; cases h
    · rw [if_neg h3] at h
      have hg := errL_good h (fun s hs => (List.mem_append.1 hs).elim (hn s) (hn2 s))
      exact ⟨by omega, by omega, fun s hs => hg s (by simp [hs]), fun s hs => hg s (by simp [hs])⟩
theorem T.Good.nums {l : List SV} (h : Good l) : ∀ s ∈ l, R64 s.1 ∧ R64 s.2 := fun s hs => by
  have := h s hs
  unfold big at this
  unfold R64
  omega
theorem made_one (w : World) (v : Value) (t : TypeId) : (w.alloc (.cells #[v] t)).cell? ⟨w.heap.size, 0, none⟩ = some v := by simp
theorem made_pair (w : World) (v u : Value) (t : TypeId) : (w.alloc (.cells #[v, u] t)).cell? ⟨w.heap.size, 0, none⟩ = some v ∧ (w.alloc (.cells #[v, u] t)).cell? ⟨w.heap.size, 1, none⟩ = some u := by constructor <;> simp
set_option maxHeartbeats 1000000 in
theorem Union_any (A : Option Addr) (c m : Nat) (l : List SV) (w : World) (hl : SpIn w w.heap.size A c l) (hm : l.length = m) :
    Calls Tryd.prog 24 #[.slice A m c] w (SetPost (T.listE m l) (T.In l) m w) := by
  have HL := Lib.hid hl
  have Hm := Lib.hid hm
  have HC := Lib.hid (checkLists_one w.heap.size 1 A c m l (w.alloc (.cells #[.slice A m c] 29)) (made_one w _ _) (hl.on (below_new _ _)) hm)
  have HN := Lib.hid hl.nums
  have hb0 : Below w.heap.size w (w.alloc (.cells #[.slice A m c] 29)) := below_new _ _
  have HB0 := Lib.hid hb0
  obtain ⟨E, hE⟩ : ∃ E, T.listE m l = E := ⟨_, rfl⟩
  rw [hE] at HC ⊢
  clear hl hm hb0
  by_cases h0 : E = 0
  · subst h0
    have HG := Lib.hid (T.listE_good hE HN.out)
    clear hE
    go_enter Tryd.func24, Tryd.ntmps24
    go_wp2_with fail
    refine HC.out.mono ?_
    rintro e w1 ⟨rfl, hb⟩
    have hb1 : Below w.heap.size w w1 := bt HB0.out HB0.out.size hb
    have HJ := Lib.hid (joined_any A c m l w1 (HL.out.on hb1) Hm.out (by have := HG.out.1; omega) HG.out.2)
    have HB1 := Lib.hid hb1
    clear hb hb1
    go_wp2_with fail
    refine HJ.out.mono ?_
    rintro e w2 ⟨v, acc, rfl, hown, hcan, hb2⟩
    have HF : Hid (SetPost 0 (T.In l) m w (.returned (.tuple #[v, .int .i64 0])) w2) := Lib.hid ⟨v, acc, rfl, hown.mono HB1.out.size, fun _ => hcan, fun h => absurd rfl h, by rw [← Hm.out]; exact T.canon_len_union hcan, bt HB1.out HB1.out.size hb2⟩
    clear hown hcan hb2
    go_wp2_with fail
    go_ret2
    exact HF.out
  · clear hE
    go_enter Tryd.func24, Tryd.ntmps24
    go_wp2_with fail
    refine HC.out.mono ?_
    rintro e w1 ⟨rfl, hb⟩
    have hb1 : Below w.heap.size w w1 := bt HB0.out HB0.out.size hb
    have HF : Hid (SetPost E (T.In l) m w (.returned (.tuple #[.slice none 0 0, .int .i64 E])) w1) := Lib.hid ⟨_, [], rfl, World.ownsRow_nil _ _ _ _, fun h => absurd h h0, fun _ => rfl, by simp, hb1⟩
    clear hb hb1
    go_wp2_with fail
    go_ret2
    exact HF.out
/-- Between two rounds of Minus. -/
structure MI (w : World) (aa cuts : List SV) (k : Nat) (v : Value) (acc : List SV) (wr : World) : Prop where
  own : OwnSp wr w.heap.size v acc
  canon : T.Canon (fun t => T.In (aa.take k) t ∧ ¬ T.In cuts t) acc
  bel : Below w.heap.size w wr
set_option maxHeartbeats 4000000 in
theorem Minus_any (A A2 : Option Addr) (c c2 m m2 : Nat) (a b : List SV) (w : World) (hl : SpIn w w.heap.size A c a) (hl2 : SpIn w w.heap.size A2 c2 b) (hm : a.length = m) (hm2 : b.length = m2) :
    Calls Tryd.prog 26 #[.slice A m c, .slice A2 m2 c2] w (SetPost (T.listsE m m2 a b) (fun t => T.In a t ∧ ¬ T.In b t) (m + m2) w) := by
  have HL := Lib.hid hl
  have Hm := Lib.hid hm
  have HL2 := Lib.hid hl2
  have Hm2 := Lib.hid hm2
  have HC := Lib.hid (checkLists_two w.heap.size 2 A A2 c c2 m m2 a b (w.alloc (.cells #[.slice A m c, .slice A2 m2 c2] 29)) (made_pair w _ _ _).1 (made_pair w _ _ _).2 (hl.on (below_new _ _)) (hl2.on (below_new _ _)) hm hm2)
  have HN := Lib.hid hl.nums
  have HN2 := Lib.hid hl2.nums
  have hb0 : Below w.heap.size w (w.alloc (.cells #[.slice A m c, .slice A2 m2 c2] 29)) := below_new _ _
  have HB0 := Lib.hid hb0
  obtain ⟨E, hE⟩ : ∃ E, T.listsE m m2 a b = E := ⟨_, rfl⟩
  rw [hE] at HC ⊢
  clear hl hm hl2 hm2 hb0
  by_cases h0 : E = 0
  · subst h0
    have HG := Lib.hid (T.listsE_good hE HN.out HN2.out)
    clear hE
    go_enter Tryd.func26, Tryd.ntmps26
    go_wp2_with fail
    refine HC.out.mono ?_
    rintro e w1 ⟨rfl, hb⟩
    have hb1 : Below w.heap.size w w1 := bt HB0.out HB0.out.size hb
    have HJ := Lib.hid (joined_any A2 c2 m2 b w1 (HL2.out.on hb1) Hm2.out (by have := HG.out.2.1; omega) HG.out.2.2.2)
    have HB1 := Lib.hid hb1
    clear hb hb1
    go_wp2_with fail
    refine HJ.out.mono ?_
    rintro e w2 ⟨vc, cuts, rfl, hownc, hcanc, hb2⟩
    have hgc := hcanc.good HG.out.2.2.2.within
    have hlc : cuts.length ≤ m2 := by rw [← Hm2.out]; exact T.canon_len_union hcanc
    have hb2' := bt HB1.out HB1.out.size hb2
    obtain ⟨A3, c3, rfl, hspc⟩ := hownc.reads hgc.nums
    have HSc := Lib.hid hspc
    have HCc := Lib.hid hcanc
    have HB2 := Lib.hid hb2'
    have HJ2 := Lib.hid (joined_any A c m a w2 (HL.out.on hb2') Hm.out (by have := HG.out.1; omega) HG.out.2.2.1)
    obtain ⟨M2, hM2⟩ : ∃ M2, cuts.length = M2 := ⟨_, rfl⟩
    have HM2 := Lib.hid hM2
    have hM2200 : M2 ≤ 200 := by have := HG.out.2.1; omega
    rw [hM2]
    clear hownc hcanc hb2 hb2' hspc hgc hlc hM2
    go_wp2_with fail
    refine HJ2.out.mono ?_
    rintro e w3 ⟨va, aa, rfl, howna, hcana, hb3⟩
    have hga := hcana.good HG.out.2.2.1.within
    have hla : aa.length ≤ m := by rw [← Hm.out]; exact T.canon_len_union hcana
    have hb3' := bt HB2.out HB2.out.size hb3
    obtain ⟨A4, c4, rfl, hspa⟩ := howna.reads hga.nums
    have HSc3 := Lib.hid (HSc.out.on hb3)
    have HSa := Lib.hid hspa
    have HCa := Lib.hid hcana
    have HB3 := Lib.hid hb3'
    have HGa := Lib.hid hga
    obtain ⟨M, hM⟩ : ∃ M, aa.length = M := ⟨_, rfl⟩
    have HM := Lib.hid hM
    have hM200 : M ≤ 200 := by have := HG.out.1; omega
    have hle := hspa.le
    have hcm := hspa.cap
    unfold maxLen at hcm
    rw [hM] at hle ⊢
    clear howna hcana hb3 hb3' hspa hga hla hM HJ HJ2 HSc
    go_wp2_with fail
    go_loopw [8, 23] (fun v i wr => ∃ (k : Nat) (acc : List SV), k ≤ M ∧ i = .int .i64 k ∧ Hid (MI w3 aa cuts k v acc wr)) (fun _ i _ => M - (intOf i).toNat)
    case atStart => exact ⟨0, [], Nat.zero_le _, rfl, Lib.hid ⟨World.ownsRow_nil _ _ _ _, ⟨T.Asc.nil, fun t => ⟨fun h => absurd h (T.in_nil t), fun h => absurd h.1 (T.in_nil t)⟩⟩, Below.refl _ _⟩⟩
    case round =>
      obtain ⟨k, acc, hk, rfl, hI⟩ := hrel
      by_cases hlt : k < M
      · have hkf : k < aa.length := by rw [HM.out]; exact hlt
        obtain ⟨ad, rfl, hlb, c0, c1⟩ := (HSa.out.below hI.out.bel).at_ hkf
        obtain ⟨p, q, hs⟩ : ∃ p q, aa[k]'hkf = (p, q) := ⟨_, _, rfl⟩
        have hsplit : aa.take k ++ (p, q) :: aa.drop (k + 1) = aa := by rw [← hs, ← List.drop_eq_getElem_cons hkf, List.take_append_drop]
        have hgs := HGa.out (p, q) (by rw [← hs]; exact List.getElem_mem hkf)
        have htk : aa.take (k + 1) = aa.take k ++ [(p, q)] := by rw [take_succ_sp hkf, hs]
        rw [hs] at c0 c1
        rw [addr_one] at c1
        have hsz := hI.out.bel.size
        have hba : Below w3.heap.size w3 (wr.alloc (.cells #[.int .i64 p, .int .i64 q] 32)) := hI.out.bel.alloc hsz _
        have HBa := Lib.hid hba
        have HW := Lib.hid (without_any p q A3 c3 M2 cuts (wr.alloc (.cells #[.int .i64 p, .int .i64 q] 32)) (HSc3.out.on hba) HM2.out (by omega) HCc.out.asc (T.Good.nums HGa.out (p, q) (by rw [← hs]; exact List.getElem_mem hkf)).1)
        have Hsplit := Lib.hid hsplit
        have Htk := Lib.hid htk
        have HlenA : Hid (acc.length ≤ 400) := Lib.hid (by
          have := T.canon_len hI.out.canon
          rw [List.length_take, HM2.out] at this
          omega)
        clear hs hsplit hgs htk hba
        go_wp2_with fail
        refine HW.out.mono ?_
        rintro e w4 ⟨v4, ws, rfl, hown4, hcan4, hlen4, hb4⟩
        have hg4 : T.Good ws := hcan4.good (fun t h => by
          have hin : T.In aa t := by rw [← Hsplit.out]; exact T.in_append.2 (Or.inr (T.in_cons.2 (Or.inl ⟨h.1, h.2.1⟩)))
          exact HGa.out.within t hin)
        obtain ⟨A5, c5, rfl, hsp5⟩ := hown4.reads hg4.nums
        have hacc4 : OwnSp w4 w3.heap.size u8 acc := (hI.out.own.kept (below_new _ _)).kept hb4
        have hb34 : Below w3.heap.size w3 w4 := bt HBa.out HBa.out.size hb4
        have hs4 := hb34.size
        have hM2l : ws.length ≤ M2 + 1 := by rw [← HM2.out]; exact hlen4
        obtain ⟨M5, hM5⟩ : ∃ M5, ws.length = M5 := ⟨_, rfl⟩
        have HM5 := Lib.hid hM5
        have HSp5 := Lib.hid hsp5
        have Hacc4 := Lib.hid hacc4
        have Hcan4 := Lib.hid hcan4
        rw [hM5] at hM2l ⊢
        clear hown4 hb4 hg4 hsp5 hacc4 hcan4 hlen4 hM5
        go_wp2_with (at_builtin; refine wp_append_sp rfl _ _ rfl w3.heap.size u8 acc rfl Hacc4.out w4.heap.size A5 M5 c5 ws rfl HM5.out HSp5.out (by have := HlenA.out; omega) hs4 ?_)
        intro v5 w5 hown5 hb5 _
        have HI5 : Hid (MI w3 aa cuts (k + 1) v5 (acc ++ ws) w5) := Lib.hid ⟨hown5, by rw [Htk.out]; exact T.gather (post := aa.drop (k + 1)) (by rw [Hsplit.out]; exact HCa.out.asc) hI.out.canon Hcan4.out, hb34.trans hb5⟩
        clear hown5 hb5 hb34
        go_wp2_with fail
        go_roundw
        case rel => exact ⟨k + 1, _, by omega, by go_num, HI5⟩
        case measure => simp [intOf]; omega
      · have hcanF : T.Canon (fun t => T.In a t ∧ ¬ T.In b t) acc := by
          have := hI.out.canon
          rw [List.take_of_length_le (by rw [HM.out]; omega)] at this
          exact this.of fun t => by rw [HCa.out.at_ t, HCc.out.at_ t]
        have HF : Hid (SetPost 0 (fun t => T.In a t ∧ ¬ T.In b t) (m + m2) w (.returned (.tuple #[u8, .int .i64 0])) wr) := Lib.hid ⟨u8, acc, rfl, hI.out.own.mono HB3.out.size, fun _ => hcanF, fun h => absurd rfl h, by rw [← Hm.out, ← Hm2.out]; exact T.canon_len hcanF, bt HB3.out HB3.out.size hI.out.bel⟩
        clear hcanF
        go_wp2_with fail
        go_ret2
        exact HF.out
  · clear hE
    go_enter Tryd.func26, Tryd.ntmps26
    go_wp2_with fail
    refine HC.out.mono ?_
    rintro e w1 ⟨rfl, hb⟩
    have hb1 : Below w.heap.size w w1 := bt HB0.out HB0.out.size hb
    have HF : Hid (SetPost E (fun t => T.In a t ∧ ¬ T.In b t) (m + m2) w (.returned (.tuple #[.slice none 0 0, .int .i64 E])) w1) := Lib.hid ⟨_, [], rfl, World.ownsRow_nil _ _ _ _, fun h => absurd h h0, fun _ => rfl, by simp, hb1⟩
    clear hb hb1
    go_wp2_with fail
    go_ret2
    exact HF.out
end Go.Proofs.YtnehllkklmdpfaaDoor
