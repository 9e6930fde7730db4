/- The contract of without: the spans of the times of one span that none of the cuts has. -/
import Derived.Test.YtnehllkklmdpfaaDoorTmJoin
namespace Go.Proofs.YtnehllkklmdpfaaDoor
open Go.RowKit Go.Shelf
open T (SV)
set_option linter.unusedSimpArgs false
set_option maxRecDepth 100000
/-- append of one span to a slice of the program's own, with what it leaves. -/
theorem wp_append_one {w : World} {ops : Array Oper} {rest : List Oper} {o : Oper} {a : Act} {Q : Exit → Act → World → Prop} (hgd : o.guard = none) (s x : Operand)
    (ho : o.op = .call { callee := .builtin .append, args := #[s, x], argTypes := #[29, 29] })
    (base : Nat) (v : Value) (l0 : List SV) (hs : a.eval s = v) (hown : OwnSp w base v l0) (g c : Nat) (p q : Int) (hx : a.eval x = .slice (some ⟨g, 0, none⟩) 1 c) (h0 : w.cell? ⟨g, 0, none⟩ = some (.int .i64 p)) (h1 : w.cell? ⟨g, 1, none⟩ = some (.int .i64 q))
    (hn : l0.length + 1 ≤ 1000000) (hbase : base ≤ w.heap.size)
    (h : ∀ v' w', OwnSp w' base v' (l0 ++ [(p, q)]) → w.grownBy w' v.ownBlock → wpList Tryd.prog ops Q rest (a.put o.dst v') w') : wpList Tryd.prog ops Q (o :: rest) a w := by
  obtain ⟨i0, hi, hz0, hz1, hz2⟩ := info_parts info_sp
  refine wpList_append_own w hgd s x _ ho base 32 i0 (.agg #[.int .i64 0, .int .i64 0]) 2 16 Tryd.underlying29 hi hz0 hz1 hz2 rfl (by decide) v l0.length (spCells l0) hs hown ⟨g, 0, none⟩ 1 c [.int .i64 p, .int .i64 q] hx rfl ?_ ?_ (by unfold maxLen; omega) (by omega) hbase ?_
  · intro j u hu
    rw [addr_lit, Nat.zero_add]
    match j, hu with
    | 0, hu => simp at hu; subst hu; exact h0
    | 1, hu => simp at hu; subst hu; exact h1
  · intro u hu
    simp at hu
    rcases hu with rfl | rfl <;> rfl
  · intro v' w' h1 h2 _
    refine h v' w' ?_ h2
    unfold OwnSp
    rw [List.length_append, show (spCells (l0 ++ [(p, q)])) = spCells l0 ++ [.int .i64 p, .int .i64 q] from by simp [spCells]]
    exact h1
def WithoutPost (s : SV) (cuts : List SV) (w : World) (e : Ending) (w' : World) : Prop := ∃ v acc, e = .returned v ∧ OwnSp w' w.heap.size v acc ∧ T.Canon (fun t => s.1 ≤ t ∧ t < s.2 ∧ ¬ T.In cuts t) acc ∧ acc.length ≤ cuts.length + 1 ∧ Below w.heap.size w w'
/-- Between two rounds of without. -/
structure WI (w : World) (s : SV) (cuts : List SV) (k : Nat) (v : Value) (acc : List SV) (r : Int) (wr : World) : Prop where
  own : OwnSp wr (w.heap.size + 2) v acc
  left : T.Left s cuts acc r (cuts.drop k)
  rest : wr.heap[w.heap.size + 1]? = some (.cells #[.int .i64 r, .int .i64 s.2] 32 (0, 0))
  bel : Below w.heap.size w wr
  num : T.R64 r
  len : acc.length ≤ k
  size : w.heap.size + 2 ≤ wr.heap.size
theorem WI.cells {w : World} {s : SV} {cuts : List SV} {k : Nat} {v : Value} {acc : List SV} {r : Int} {wr : World} (h : WI w s cuts k v acc r wr) : wr.cell? ⟨w.heap.size + 1, 0, none⟩ = some (.int .i64 r) ∧ wr.cell? ⟨w.heap.size + 1, 1, none⟩ = some (.int .i64 s.2) ∧ wr.frozen? ⟨w.heap.size + 1, 0, none⟩ = false := by
  refine ⟨?_, ?_, ?_⟩
  · simp [World.cell?, h.rest]
  · simp [World.cell?, h.rest]
  · simp [World.frozen?, h.rest]
theorem OwnSp.mono {w : World} {b b' : Nat} {v : Value} {l : List SV} (h : OwnSp w b v l) (hb : b' ≤ b) : OwnSp w b' v l := own_mono h hb
theorem OwnSp.setOther {w : World} {b g i : Nat} {v x : Value} {l : List SV} (h : OwnSp w b v l) (hg : g < b) : OwnSp (w.setCell ⟨g, i, none⟩ x) b v l :=
  own_grown h (grown_setCell w g i x) (fun r e => by have := Option.some.inj e; omega)
set_option maxHeartbeats 4000000 in
theorem without_any (x e : Int) (A : Option Addr) (c m : Nat) (cuts : List SV) (w : World) (hl : SpIn w w.heap.size A c cuts) (hm : cuts.length = m) (hn : m ≤ 1000) (hA : T.Asc cuts) (hx : T.R64 x) :
    Calls Tryd.prog 41 #[.agg #[.int .i64 x, .int .i64 e], .slice A m c] w (WithoutPost (x, e) cuts w) := by
  have hle := hl.le
  have hcm := hl.cap
  unfold maxLen at hcm
  rw [hm] at hle
  have HL := Lib.hid hl
  have Hm := Lib.hid hm
  have HA := Lib.hid hA
  have Hx := Lib.hid hx
  clear hl hm hA hx
  have HStart : Hid (WI w (x, e) cuts 0 (.slice none 0 0) [] x ((w.alloc (.cells #[.int .i64 x, .int .i64 e] 32)).alloc (.cells #[.int .i64 x, .int .i64 e] 32))) := Lib.hid
    ⟨World.ownsRow_nil _ _ _ _, T.Left.start (x, e) cuts, by have := World.alloc_heap_new (w.alloc (.cells #[.int .i64 x, .int .i64 e] 32)) (.cells #[.int .i64 x, .int .i64 e] 32); rwa [World.size_alloc] at this, (below_new _ _).alloc (by simp) _, Hx.out, Nat.le_refl _, by simp⟩
  go_enter Tryd.func41, Tryd.ntmps41
  go_wp2_with fail
  go_loopw [5, 12] (fun v i wr => ∃ (k : Nat) (acc : List SV) (r : Int), k ≤ m ∧ i = .int .i64 k ∧ Hid (WI w (x, e) cuts k v acc r wr)) (fun _ i _ => m - (intOf i).toNat)
  case atStart => exact ⟨0, [], x, Nat.zero_le _, rfl, HStart⟩
  case round =>
    obtain ⟨k, acc, r, hk, rfl, hI⟩ := hrel
    clear HStart
    obtain ⟨r0, r1, rf⟩ := hI.out.cells
    simp only at r1
    have hsz := hI.out.size
    by_cases hlt : k < m
    · have hkf : k < cuts.length := by rw [Hm.out]; exact hlt
      obtain ⟨ad, rfl, hlb, c0, c1⟩ := (HL.out.below hI.out.bel).at_ hkf
      obtain ⟨p, q, hs⟩ : ∃ p q, cuts[k]'hkf = (p, q) := ⟨_, _, rfl⟩
      have hnum := HL.out.nums (p, q) (by rw [← hs]; exact List.getElem_mem hkf)
      have hdrop : cuts.drop k = (p, q) :: cuts.drop (k + 1) := by rw [List.drop_eq_getElem_cons hkf, hs]
      have hasc : T.Asc ((p, q) :: cuts.drop (k + 1)) := by rw [← hdrop]; exact ⟨fun s h => HA.out.some_ s (List.mem_of_mem_drop h), HA.out.apart.sublist (List.drop_sublist _ _)⟩
      have hleft : T.Left (x, e) cuts acc r ((p, q) :: cuts.drop (k + 1)) := by rw [← hdrop]; exact hI.out.left
      rw [hs] at c0 c1
      rw [addr_one] at c1
      have Hleft := Lib.hid hleft
      have Hasc := Lib.hid hasc
      have Hnum := Lib.hid hnum
      clear hs hdrop hasc hleft hnum
      have hba : Below wr.heap.size wr (wr.alloc (.cells #[.int .i64 p, .int .i64 q] 32)) := below_new wr _
      have a0 : (wr.alloc (.cells #[.int .i64 p, .int .i64 q] 32)).cell? ⟨w.heap.size + 1, 0, none⟩ = some (.int .i64 r) := (hba.cell (p := ⟨w.heap.size + 1, 0, none⟩) (by show w.heap.size + 1 < _; omega)).trans r0
      have a1 : (wr.alloc (.cells #[.int .i64 p, .int .i64 q] 32)).cell? ⟨w.heap.size + 1, 1, none⟩ = some (.int .i64 e) := (hba.cell (p := ⟨w.heap.size + 1, 1, none⟩) (by show w.heap.size + 1 < _; omega)).trans r1
      have af : (wr.alloc (.cells #[.int .i64 p, .int .i64 q] 32)).frozen? ⟨w.heap.size + 1, 0, none⟩ = false := (hba.frozen (p := ⟨w.heap.size + 1, 0, none⟩) (by show w.heap.size + 1 < _; omega)).trans rf
      have HownA : Hid (OwnSp (wr.alloc (.cells #[.int .i64 p, .int .i64 q] 32)) (w.heap.size + 2) u5 acc) := Lib.hid (hI.out.own.kept hba)
      have HrestA : Hid ((wr.alloc (.cells #[.int .i64 p, .int .i64 q] 32)).heap[w.heap.size + 1]? = some (.cells #[.int .i64 r, .int .i64 e] 32 (0, 0))) := Lib.hid ((hba.block _ (by omega)).trans hI.out.rest)
      have HbelA : Hid (Below w.heap.size w (wr.alloc (.cells #[.int .i64 p, .int .i64 q] 32))) := Lib.hid (hI.out.bel.alloc (by omega) _)
      clear hba r0 r1 rf
      have hskip : ∀ (h : q ≤ r ∨ e ≤ p), Hid (WI w (x, e) cuts (k + 1) u5 acc r (wr.alloc (.cells #[.int .i64 p, .int .i64 q] 32))) := fun h =>
        Lib.hid ⟨HownA.out, Hleft.out.skip h, HrestA.out, HbelA.out, hI.out.num, by have := hI.out.len; omega, by simp; omega⟩
      have Hskip := Lib.hid hskip
      clear hskip
      by_cases h1 : q ≤ r
      · have hW := Hskip.out (Or.inl h1)
        clear Hskip
        go_wp2_with fail
        go_roundw
        case rel => exact ⟨k + 1, acc, r, by omega, by go_num, hW⟩
        case measure => simp [intOf]; omega
      · by_cases h2 : e ≤ p
        · have hW := Hskip.out (Or.inr h2)
          clear Hskip
          go_wp2_with fail
          go_roundw
          case rel => exact ⟨k + 1, acc, r, by omega, by go_num, hW⟩
          case measure => simp [intOf]; omega
        · clear Hskip
          have hqr : r < q := by omega
          have hpe : p < e := by omega
          have HrN : ∀ g, u5.ownBlock = some g → w.heap.size + 2 ≤ g ∧ g < wr.heap.size := fun g hg => hI.out.own.lt g hg
          have HlenA : Hid (acc.length ≤ k ∧ T.R64 q) := Lib.hid ⟨hI.out.len, Hnum.out.2⟩
          by_cases h3 : r < p
          · have hL := Hleft.out.cut Hasc.out h3 hpe
            have HLft := Lib.hid hL
            clear hL
            go_wp2_with (at_builtin; refine wp_append_one rfl _ _ rfl (w.heap.size + 2) u5 acc rfl (HownA.out.kept (below_new _ _)) (wr.heap.size + 1) 1 r p rfl ?c0 ?c1 ?c2 ?c3 ?_)
            case c2 => have := HlenA.out.1; omega
            case c3 => (try simp); omega
            intro v3 w3 hown3 hgrow
            have hb1 : w3.heap[wr.heap.size]? = some (.cells #[.int .i64 p, .int .i64 q] 32 (0, 0)) := grown_at hgrow ((Below.heap_alloc _ _ _ (by simp)).trans (World.alloc_heap_new wr _)) (fun h => by have := (HrN _ h.symm).2; omega)
            have hb2 : w3.heap[w.heap.size + 1]? = some (.cells #[.int .i64 r, .int .i64 e] 32 (0, 0)) := grown_at hgrow ((Below.heap_alloc _ _ _ (by simp; omega)).trans HrestA.out) (fun h => by have := (HrN _ h.symm).1; omega)
            have hc3 : w3.cell? ⟨wr.heap.size, 1, none⟩ = some (.int .i64 q) := by simp [World.cell?, hb1]
            have hc4 : w3.cell? ⟨w.heap.size + 1, 0, none⟩ = some (.int .i64 r) := by simp [World.cell?, hb2]
            have hf4 : w3.frozen? ⟨w.heap.size + 1, 0, none⟩ = false := by simp [World.frozen?, hb2]
            have hbel3 : Below w.heap.size w w3 := (HbelA.out.alloc (by simp; omega) _).grown hgrow (by simp; omega) (fun j hj => by have := (HrN j hj).1; omega)
            have hs3 : w.heap.size + 2 ≤ w3.heap.size := by have := hgrow.size; simp at this; omega
            have HW : Hid (WI w (x, e) cuts (k + 1) v3 (acc ++ [(r, p)]) q (w3.setCell ⟨w.heap.size + 1, 0, none⟩ (.int .i64 q))) := Lib.hid
              ⟨hown3.setOther (by omega), HLft.out, setCell_block _ hb2, hbel3.setCell (p := ⟨w.heap.size + 1, 0, none⟩) (by show w.heap.size ≤ w.heap.size + 1; omega) _, HlenA.out.2, by have := HlenA.out.1; simp; omega, by simpa using hs3⟩
            clear hown3 hgrow hb1 hb2 hbel3 a0 a1 af c0 c1
            go_wp2_with fail
            go_roundw
            case rel => exact ⟨k + 1, _, _, by omega, by go_num, HW⟩
            case measure => simp [intOf]; omega
          · have hL := Hleft.out.drop h3 hqr
            have HW : Hid (WI w (x, e) cuts (k + 1) u5 acc q ((wr.alloc (.cells #[.int .i64 p, .int .i64 q] 32)).setCell ⟨w.heap.size + 1, 0, none⟩ (.int .i64 q))) := Lib.hid
              ⟨HownA.out.setOther (by omega), hL, setCell_block _ HrestA.out, HbelA.out.setCell (p := ⟨w.heap.size + 1, 0, none⟩) (by show w.heap.size ≤ w.heap.size + 1; omega) _, HlenA.out.2, by have := HlenA.out.1; omega, by simp; omega⟩
            clear hL
            go_wp2_with fail
            go_roundw
            case rel => exact ⟨k + 1, _, _, by omega, by go_num, HW⟩
            case measure => simp [intOf]; omega
    · have hkm : k = m := by omega
      have hdrop : cuts.drop k = [] := List.drop_eq_nil_of_le (by rw [Hm.out]; omega)
      have hleft : T.Left (x, e) cuts acc r [] := by rw [← hdrop]; exact hI.out.left
      have hlen : acc.length ≤ cuts.length := by have := hI.out.len; rw [Hm.out]; omega
      have Hlen := Lib.hid hlen
      have Hleft := Lib.hid hleft
      have HOwn := Lib.hid hI.out.own
      have HBel := Lib.hid hI.out.bel
      clear hdrop hleft hlen hkm
      by_cases h3 : r < e
      · have HC := Lib.hid (Hleft.out.last h3)
        go_wp2_with (at_builtin; refine wp_append_one rfl _ _ rfl (w.heap.size + 2) u5 acc rfl (HOwn.out.kept (below_new _ _)) wr.heap.size 1 r e rfl ?d0 ?d1 ?d2 ?d3 ?_)
        case d2 => have := Hlen.out; have := Hm.out; omega
        case d3 => (try simp); omega
        intro v3 w3 hown3 hgrow
        have HF : Hid (WithoutPost (x, e) cuts w (.returned v3) w3) := Lib.hid ⟨v3, acc ++ [(r, e)], rfl, hown3.mono (by omega), HC.out, by have := Hlen.out; simp; omega, (HBel.out.alloc (by omega) _).grown hgrow (by simp; omega) (fun j hj => by have := (HOwn.out.lt j hj).1; omega)⟩
        clear hown3 hgrow r0 r1 rf
        go_wp2_with fail
        go_ret
        exact HF.out
      · have HC := Lib.hid (Hleft.out.none_ h3)
        have HF : Hid (WithoutPost (x, e) cuts w (.returned u5) wr) := Lib.hid ⟨u5, acc, rfl, HOwn.out.mono (by omega), HC.out, by have := Hlen.out; omega, HBel.out⟩
        go_wp2_with fail
        go_ret
        exact HF.out
end Go.Proofs.YtnehllkklmdpfaaDoor
