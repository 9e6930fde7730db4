/- The walk of WordsBoth. -/
import Derived.Test.YtbjfpmklmhgbdaaDoorWordsBMath
import Derived.Test.YtbjfpmklmhgbdaaDoorWordsLaws2
import Derived.Laws.AppendOwnNone
namespace Go.Proofs.YtbjfpmklmhgbdaaDoor
open Go.RowKit Go.Shelf
theorem fCells_two (fs : List FV) : (fCells fs).length = fs.length * 2 := by
  induction fs with
  | nil => rfl
  | cons f r ih => simp [fCells] at ih ⊢; omega
theorem FieldsIn.src {w : World} {B c : Nat} {ad : Addr} {fs : List FV} (h : FieldsIn w B (some ad) c fs) (j : Nat) (u : Value) (hj : (fCells fs)[j]? = some u) : w.cell? (ad.add j) = some u := by
  have hlt := (List.getElem?_eq_some_iff.1 hj).1
  rw [fCells_two] at hlt
  have hk : j / 2 < fs.length := by omega
  obtain ⟨_, h0, h1⟩ := h.cells ad rfl (j / 2) hk
  have hx := fCells_at fs (j / 2) hk
  rcases Nat.mod_two_eq_zero_or_one j with e | e
  · have ej : 2 * (j / 2) = j := by omega
    rw [ej] at hx
    rw [Nat.mul_comm, ej] at h0
    rw [h0, ← hx.1, hj]
  · have ej : 2 * (j / 2) + 1 = j := by omega
    rw [ej] at hx
    rw [Nat.mul_comm (j / 2) 2, ej] at h1
    rw [h1, ← hx.2, hj]
theorem fCells_one (fs : List FV) : ∀ u ∈ fCells fs, u.oneCell' = true := by
  intro u hu
  obtain ⟨f, _, hf⟩ := List.mem_flatMap.1 hu
  simp at hf
  rcases hf with rfl | rfl <;> rfl
theorem fCells_app (xs ys : List FV) : fCells xs ++ fCells ys = fCells (xs ++ ys) := by simp [fCells]
set_option maxHeartbeats 1000000 in
/-- Fields that read as a list are appended to an owned row. -/
theorem push_fields {ops : Array Oper} {rest : List Oper} {o : Oper} {a : Act} {Q : Exit → Act → World → Prop} (w w0 : World) (hgd : o.guard = none) (s x : Operand)
    (ho : o.op = .call { callee := .builtin .append, args := #[s, x], argTypes := #[32, 32] })
    (B : Nat) (v : Value) (xs : List FV) (hs : a.eval s = v) (hown : w0.ownsRow B 45 2 v xs.length (fCells xs)) (Bs : Nat) (A : Option Addr) (c n : Nat) (l : List FV) (hn : n = l.length) (hx : a.eval x = .slice A n c) (hin : FieldsIn w0 Bs A c l)
    (hB : B ≤ w.heap.size) (hbel : Below B w w0) (hl : xs.length ≤ 1000000) (hl2 : l.length ≤ 1000000)
    (h : ∀ v' w', w'.ownsRow B 45 2 v' (xs ++ l).length (fCells (xs ++ l)) → Below B w w' → wpList Tryd.prog ops Q rest (a.put o.dst v') w') :
    wpList Tryd.prog ops Q (o :: rest) a w0 := by
  obtain ⟨i0, hi, hz0, hz1, hz2⟩ := info_parts info_fieldR
  have hB0 : B ≤ w0.heap.size := Nat.le_trans hB hbel.size
  subst hn
  cases A with
  | none =>
    obtain ⟨rfl, rfl⟩ := hin.nil_of
    refine wpList_append_own_none hgd s x 32 ho B 45 i0 2 Tryd.underlying32 hi v _ _ hs hown (by simpa using hx) ?_
    exact h v w0 (by simpa using hown) hbel
  | some ad =>
    refine wpList_append_own _ hgd s x 32 ho B 45 i0 _ 2 24 Tryd.underlying32 hi hz0 hz1 hz2 rfl (by decide) v _ _ hs hown ad l.length c (fCells l) hx (by rw [fCells_two]) (fun j u hj => hin.src j u hj) (fCells_one l) (by unfold maxLen; omega) (by omega) hB0 ?_
    intro v' w' hown' hg _
    exact h v' w' (by rw [List.length_append, ← fCells_app]; exact hown') (hbel.grown hg hB0 (fun k hk => (hown.lt k hk).1))
/-- What the three lines have to do with one another. -/
theorem W.both_cases {l m : List FV} (hl : l ≠ []) (hm : m ≠ []) :
    ((W.joinE l != 0) = true ∧ (W.joinE (l ++ m) != 0) = true) ∨ (W.joinE l = 0 ∧ (W.joinE m != 0) = true ∧ (W.joinE (l ++ m) != 0) = true) ∨
    (W.joinE l = 0 ∧ W.joinE m = 0 ∧ W.joinE (l ++ m) = 3 ∧ W.joinV (l ++ m) = [] ∧ (W.joinV l).length ≤ 8192 ∧ (W.joinV m).length ≤ 8192 ∧ (64 : Int) < (l.length : Int) + m.length) ∨
    (W.joinE l = 0 ∧ W.joinE m = 0 ∧ W.joinE (l ++ m) = 3 ∧ W.joinV (l ++ m) = [] ∧ (W.joinV l).length ≤ 8192 ∧ (W.joinV m).length ≤ 8192 ∧ (l.length : Int) + m.length ≤ 64 ∧ (8192 : Int) < ((W.joinV l).length : Int) + 1 + (W.joinV m).length) ∨
    (W.joinE l = 0 ∧ W.joinE m = 0 ∧ W.joinE (l ++ m) = 0 ∧ (W.joinV l).length ≤ 8192 ∧ (W.joinV m).length ≤ 8192 ∧ (l.length : Int) + m.length ≤ 64 ∧ ((W.joinV l).length : Int) + 1 + (W.joinV m).length ≤ 8192 ∧ W.joinV (l ++ m) = W.joinV l ++ [32] ++ W.joinV m) := by
  by_cases h1 : W.joinE l = 0
  · by_cases h2 : W.joinE m = 0
    · obtain ⟨_, _, a3, a4⟩ := W.joinE_zero h1
      obtain ⟨_, _, b3, b4⟩ := W.joinE_zero h2
      rw [← a4] at a3
      rw [← b4] at b3
      by_cases h : 64 < l.length + m.length ∨ 8192 < (W.joinV l).length + 1 + (W.joinV m).length
      · obtain ⟨e1, e2⟩ := W.both_far hl hm h1 h2 h
        by_cases h64 : 64 < l.length + m.length
        · exact Or.inr (Or.inr (Or.inl ⟨h1, h2, e1, e2, a3, b3, by omega⟩))
        · exact Or.inr (Or.inr (Or.inr (Or.inl ⟨h1, h2, e1, e2, a3, b3, by omega, by omega⟩)))
      · obtain ⟨e1, e2⟩ := W.both_good hl hm h1 h2 h
        exact Or.inr (Or.inr (Or.inr (Or.inr ⟨h1, h2, e1, a3, b3, by omega, by omega, e2⟩)))
    · exact Or.inr (Or.inl ⟨h1, by rw [bne_iff_ne]; exact h2, by rw [bne_iff_ne]; exact W.both_bad hl hm (Or.inr h2)⟩)
  · exact Or.inl ⟨by rw [bne_iff_ne]; exact h1, by rw [bne_iff_ne]; exact W.both_bad hl hm (Or.inl h1)⟩
theorem own_formF {w : World} {B : Nat} {v : Value} {fs : List FV} (h : w.ownsRow B 45 2 v fs.length (fCells fs)) : ∃ (A : Option Addr) (c : Nat), v = .slice A fs.length c := by
  rcases h.2 with ⟨h1, h2⟩ | ⟨g, cap, cur, h1, _⟩
  · exact ⟨none, 0, by rw [h1, h2]⟩
  · exact ⟨_, _, h1⟩
theorem str_two (O Y : List UInt8) : ((⟨O.toArray⟩ : ByteArray) ++ ⟨#[32]⟩ ++ ⟨Y.toArray⟩) = ⟨(O ++ [32] ++ Y).toArray⟩ := by
  have e : (⟨#[32]⟩ : ByteArray) = ⟨[32].toArray⟩ := rfl
  rw [e, mk_append, mk_append]
theorem both_eq {O Y L : List UInt8} (h : L = O ++ [32] ++ Y) : (L == ((⟨O.toArray⟩ : ByteArray) ++ ⟨#[32]⟩ ++ ⟨Y.toArray⟩).toList) = true := by
  rw [str_two, h]; simp
set_option maxRecDepth 100000 in
set_option maxHeartbeats 4000000 in
theorem WordsBoth_walk (A1 A2 : Option Addr) (c1 c2 n1 n2 : Nat) (l m : List FV) (w : World) (hW : WLaid w) (hb1 : FieldsIn w w.heap.size A1 c1 l) (hm1 : l.length = n1) (hb2 : FieldsIn w w.heap.size A2 c2 m) (hm2 : m.length = n2) :
    Calls Tryd.prog 8 #[.slice A1 n1 c1, .slice A2 n2 c2] w fun e w' => e = .returned (.bool true) ∧ Below w.heap.size w w' := by
  have HW := Lib.hid hW
  have HB1 := Lib.hid hb1
  have HB2 := Lib.hid hb2
  have Hm1 := Lib.hid hm1
  have Hm2 := Lib.hid hm2
  have hfar1 := far_any A1 c1 n1 l w hb1 hm1
  have hfar2 := far_any A2 c2 n2 m w hb2 hm2
  have hsh := shown_true w HW.out
  clear hW hb1 hb2 hm1 hm2
  go_enter Tryd.func8, Tryd.ntmps8
  go_wp2_with fail
  refine hfar1.mono ?_
  rintro e w' ⟨r, rfl, hr, rfl⟩
  clear hfar1
  have hz1 : n1 = 0 ∨ n1 ≠ 0 := by omega
  have hz2 : n2 = 0 ∨ n2 ≠ 0 := by omega
  cases r with
  | true =>
    clear hfar2
    go_wp2_with fail
    refine hsh.mono ?_
    rintro e w1 ⟨rfl, hb1⟩
    go_wp2_with fail
    go_ret
    exact ⟨rfl, hb1⟩
  | false =>
    have h1 := (hr rfl).1
    rw [Hm1.out] at h1
    clear hr
    go_wp2_with fail
    refine hfar2.mono ?_
    rintro e w' ⟨r, rfl, hr, rfl⟩
    clear hfar2
    cases r with
    | true =>
      go_wp2_with fail
      refine hsh.mono ?_
      rintro e w1 ⟨rfl, hb1⟩
      go_wp2_with fail
      go_ret
      exact ⟨rfl, hb1⟩
    | false =>
      have h2 := (hr rfl).1
      rw [Hm2.out] at h2
      clear hr
      rcases hz1 with rfl | hz1
      · go_wp2_with fail
        refine hsh.mono ?_
        rintro e w1 ⟨rfl, hb1⟩
        go_wp2_with fail
        go_ret
        exact ⟨rfl, hb1⟩
      · rcases hz2 with rfl | hz2
        · have hz1' : ((n1 : Int) == 0) = false := beq_eq_false_iff_ne.2 (by omega)
          go_wp2_with fail
          refine hsh.mono ?_
          rintro e w1 ⟨rfl, hb1⟩
          go_wp2_with fail
          go_ret
          exact ⟨rfl, hb1⟩
        · have hz1' : ((n1 : Int) == 0) = false := beq_eq_false_iff_ne.2 (by omega)
          have hz2' : ((n2 : Int) == 0) = false := beq_eq_false_iff_ne.2 (by omega)
          clear hsh
          go_wp2_with fail
          have hl0 : l ≠ [] := fun e => hz1 (by rw [← Hm1.out, e]; rfl)
          have hm0 : m ≠ [] := fun e => hz2 (by rw [← Hm2.out, e]; rfl)
          have hj := Join_any A1 c1 n1 l w HB1.out Hm1.out HW.out.esc (by omega)
          unfold JoinPost at hj
          obtain ⟨V1, hV1⟩ : ∃ V, W.joinV l = V := ⟨_, rfl⟩
          obtain ⟨E1, hE1⟩ : ∃ E, W.joinE l = E := ⟨_, rfl⟩
          obtain ⟨V2, hV2⟩ : ∃ V, W.joinV m = V := ⟨_, rfl⟩
          obtain ⟨E2, hE2⟩ : ∃ E, W.joinE m = E := ⟨_, rfl⟩
          obtain ⟨V3, hV3⟩ : ∃ V, W.joinV (l ++ m) = V := ⟨_, rfl⟩
          obtain ⟨E3, hE3⟩ : ∃ E, W.joinE (l ++ m) = E := ⟨_, rfl⟩
          rw [hV1, hE1] at hj
          have HC := Lib.hid (W.both_cases hl0 hm0)
          rw [hE1, hE2, hE3, hV1, hV2, hV3, Hm1.out, Hm2.out] at HC
          refine hj.mono ?_
          rintro e w1 ⟨rfl, hb1⟩
          clear hj hl0 hm0 hV1 hE1
          have hj := Join_any A2 c2 n2 m w1 ((HB2.out.below hb1).more hb1.size) Hm2.out (HW.out.below hb1).esc (by omega)
          unfold JoinPost at hj
          rw [hV2, hE2] at hj
          have HJ := Lib.hid hj
          clear hj hV2 hE2
          have H33 := Lib.hid (And.intro hV3 hE3)
          clear hV3 hE3
          go_wp2_with fail
          refine HJ.out.mono ?_
          rintro e w2 ⟨rfl, hb2⟩
          clear HJ
          have hb12 := hb1.trans (hb2.mono hb1.size)
          have hown0 : (w2.alloc (.cells #[] 45)).ownsRow w.heap.size 45 2 (.slice (some ⟨w2.heap.size, 0, none⟩) 0 0) ([] : List FV).length (fCells []) := World.ownsRow_made w2 #[] 0 hb12.size (by unfold maxLen; omega) (by simp)
          have hbel0 := hb12.alloc hb12.size (.cells #[] 45)
          have hin0 := HB1.out.below hbel0
          go_wp2_with (first
            | (at_builtin; refine push_fields w _ rfl (.tmp 39) (.tmp 40) rfl w.heap.size _ [] rfl hown0 w.heap.size A1 c1 _ l Hm1.out.symm rfl hin0 (Nat.le_refl _) hbel0 (by simp) (by rw [Hm1.out]; omega) ?_; intro v3 w3 hown3 hb3; have hin3 := HB2.out.below hb3; simp only [List.nil_append] at hown3)
            | (at_builtin; refine push_fields w _ rfl (.tmp 41) (.tmp 42) rfl w.heap.size v3 l rfl hown3 w.heap.size A2 c2 _ m Hm2.out.symm rfl hin3 (Nat.le_refl _) hb3 (by rw [Hm1.out]; omega) (by rw [Hm2.out]; omega) ?_; intro v4 w4 hown4 hb4))
          obtain ⟨A4, c4, rfl⟩ := own_formF hown4
          have hj := Join_any A4 c4 _ (l ++ m) w4 (FieldsIn.of_own rfl hown4) rfl (HW.out.below hb4).esc (by rw [List.length_append, Hm1.out, Hm2.out]; omega)
          unfold JoinPost at hj
          rw [H33.out.1, H33.out.2] at hj
          refine hj.mono ?_
          rintro e w5 ⟨rfl, hb5⟩
          have hb45 := hb4.trans (hb5.mono hb4.size)
          have HW5 := Lib.hid (HW.out.below hb45)
          have hsh := shown_true w5 HW5.out
          clear hj hown4 hown3 hin3 hin0 hown0 hbel0 hb3 hb12 hb1 hb2 hb4 hb5
          rcases HC.out with ⟨k1, k3⟩ | ⟨k1, k2, k3⟩ | ⟨rfl, rfl, rfl, rfl, k1, k2, h64⟩ | ⟨rfl, rfl, rfl, rfl, k1, k2, h64, h8⟩ | ⟨rfl, rfl, rfl, k1, k2, h64, h8, hv⟩
          · go_wp2_with fail
            refine hsh.mono ?_
            rintro e w6 ⟨rfl, hb6⟩
            go_wp2_with fail
            go_ret
            exact ⟨rfl, hb45.trans (hb6.mono hb45.size)⟩
          · subst k1
            go_wp2_with fail
            refine hsh.mono ?_
            rintro e w6 ⟨rfl, hb6⟩
            go_wp2_with fail
            go_ret
            exact ⟨rfl, hb45.trans (hb6.mono hb45.size)⟩
          · go_wp2_with fail
            refine hsh.mono ?_
            rintro e w6 ⟨rfl, hb6⟩
            go_wp2_with fail
            go_ret
            exact ⟨rfl, hb45.trans (hb6.mono hb45.size)⟩
          · go_wp2_with fail
            refine hsh.mono ?_
            rintro e w6 ⟨rfl, hb6⟩
            go_wp2_with fail
            go_ret
            exact ⟨rfl, hb45.trans (hb6.mono hb45.size)⟩
          · have hq := both_eq hv
            clear hv
            go_wp2_with fail
            refine hsh.mono ?_
            rintro e w6 ⟨rfl, hb6⟩
            go_wp2_with fail
            go_ret
            exact ⟨rfl, hb45.trans (hb6.mono hb45.size)⟩
end Go.Proofs.YtbjfpmklmhgbdaaDoor
