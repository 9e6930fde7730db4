/- The contract of words.Split. -/
import Derived.Test.YtbjfpmklmhgbdaaDoorWordsSplit
namespace Go.Proofs.YtbjfpmklmhgbdaaDoor
open Go.RowKit Go.Shelf
attribute [local go_sem] Oper.semAt_some
namespace W
/-- What Split returns: the fields, and the error. -/
def splitE (l : List UInt8) (out : List FV) (x : Int) : Prop :=
  (8192 < l.length ∧ out = [] ∧ x = 3) ∨ (l.length ≤ 8192 ∧ ∃ fs ok, LineF l fs ok ∧ ((ok = false ∧ out = [] ∧ x = 6) ∨ (ok = true ∧ longF fs = true ∧ out = [] ∧ x = 3) ∨ (ok = true ∧ longF fs = false ∧ out = fs ∧ x = 0)))
end W
/-- A list of fields, as a slice of the call's own. -/
def Fields (w : World) (base : Nat) (v : Value) (fs : List FV) : Prop := w.ownsRow base 45 2 v fs.length (fCells fs)

theorem fields_any (s : ByteArray) (w : World) :
    Calls Tryd.prog 42 #[.string s] w fun e w' => e = .returned (.func (.func 66) #[] #[.pointer (some ⟨w.heap.size, 0, none⟩)]) ∧ w' = w.alloc (.cells #[.string s] 9) := by
  go_enter Tryd.func42, Tryd.ntmps42
  go_wp2_with fail
  go_ret
  exact ⟨rfl, rfl⟩

set_option maxRecDepth 100000 in
set_option maxHeartbeats 2000000 in
theorem Split_long (s : ByteArray) (w : World) (h : 8192 < s.size) (hs : s.size ≤ 140737488351232) :
    Calls Tryd.prog 21 #[.string s] w fun e w' => e = .returned (.tuple #[.slice none 0 0, .int .i64 3]) ∧ Below w.heap.size w w' := by
  go_enter Tryd.func21, Tryd.ntmps21
  go_wp2_with fail
  refine bodyPost_ret (v := .tuple #[.slice none 0 0, .int .i64 3]) (by simp [results, Tryd.results21, go_sem]) rfl ⟨rfl, ?_⟩
  exact (((Below.refl _ _).alloc (Nat.le_refl _) _).alloc (by simp) _)

/-- Between two rounds: what has been collected. -/
def SI (N : Nat) (w : World) (pre : List (FV × Bool)) (Wd : World) : Prop :=
  ∃ fs v, pre = W.goods fs ∧ Wd.heap[N + 1 + 1]? = some (.cells #[v] 32 (0, 0)) ∧ Wd.ownsRow (N + 7) 45 2 v fs.length (fCells fs) ∧ Wd.heap[N]? = some (.cells #[.slice none 0 0] 32 (0, 0)) ∧ Wd.heap[N + 1]? = some (.cells #[.int .i64 0] 23 (0, 0)) ∧ Below N w Wd
/-- A round has left by a return. -/
def SX (N : Nat) (w : World) (c : Code) (pre : List (FV × Bool)) (Wd : World) : Prop :=
  c = .ret ∧ (∃ fs x, pre = W.goods fs ++ [(x, false)]) ∧ Wd.heap[N]? = some (.cells #[.slice none 0 0] 32 (0, 0)) ∧ Wd.heap[N + 1]? = some (.cells #[.int .i64 6] 23 (0, 0)) ∧ Below N w Wd
/-- At a round's beginning. -/
def SA (N : Nat) (w : World) (s : ByteArray) (pre : List (FV × Bool)) (x : FV × Bool) (a : Act) (Wd : World) : Prop :=
  SI N w pre Wd ∧ pre.length ≤ 8192 ∧ ∃ bx, N + 7 ≤ bx ∧ Wd.heap[bx]? = some (.cells #[.string ⟨x.1.1.toArray⟩, .bool x.1.2] 45 (0, 0)) ∧
    a = { tmps := #[.string s, undef, .pointer (some ⟨N, 0, none⟩), .pointer (some ⟨N + 1, 0, none⟩), .pointer (some ⟨N + 1 + 1, 0, none⟩), .pointer (some ⟨bx, 0, none⟩), .bool x.2, .string s, .int .i64 s.size, .bool false, .string s, .func (.func 66) #[] #[.pointer (some ⟨N + 1 + 1 + 1, 0, none⟩)], .agg #[.string ⟨x.1.1.toArray⟩, .bool x.1.2], .bool x.2, undef, undef, undef, undef, undef, undef, undef, undef, undef], defers := [] }
theorem grown_at {W1 W2 : World} {row : Option Nat} {k : Nat} {o : Obj} (hg : W1.grownBy W2 row) (h : W1.heap[k]? = some o) (hr : some k ≠ row) : W2.heap[k]? = some o :=
  (hg.block k (Array.getElem?_eq_some_iff.1 h).1 hr).trans h
theorem own_grown {W1 W2 : World} {row : Option Nat} {base : Nat} {e : TypeId} {size : Nat} {v : Value} {n : Nat} {xs : List Value} (h : W1.ownsRow base e size v n xs) (hg : W1.grownBy W2 row) (hr : ∀ r, row = some r → r < base) : W2.ownsRow base e size v n xs := by
  refine h.kept hg ?_
  cases hv : v.ownBlock with
  | none => exact Or.inl rfl
  | some g =>
    refine Or.inr (fun e2 => ?_)
    have h1 := (h.lt g hv).1
    have h2 := hr g e2.symm
    omega
theorem own_mono {W1 : World} {base base' : Nat} {e : TypeId} {size : Nat} {v : Value} {n : Nat} {xs : List Value} (h : W1.ownsRow base e size v n xs) (hb : base' ≤ base) : W1.ownsRow base' e size v n xs := by
  refine ⟨h.1, ?_⟩
  rcases h.2 with h | ⟨g, cap, cur, h1, h2, h3⟩
  · exact Or.inl h
  · exact Or.inr ⟨g, cap, cur, h1, Nat.le_trans hb h2, h3⟩
theorem SI.grown {N : Nat} {w : World} {pre : List (FV × Bool)} {W1 W2 : World} {row : Option Nat} (hN : N = w.heap.size) (h : SI N w pre W1) (hg : W1.grownBy W2 row) (hr : ∀ r, row = some r → N + 4 ≤ r ∧ r < N + 7) : SI N w pre W2 := by
  obtain ⟨fs, v, h1, h2, h3, h4, h5, h6⟩ := h
  have ne : ∀ k, k < N + 4 → some k ≠ row := fun k hk e => by have := hr k e.symm; omega
  exact ⟨fs, v, h1, grown_at hg h2 (ne _ (by omega)), own_grown h3 hg (fun r e => (hr r e).2), grown_at hg h4 (ne _ (by omega)), grown_at hg h5 (ne _ (by omega)), h6.grown hg (by have := h6.size; omega) (fun k e => by have := (hr k e).1; omega)⟩
theorem SX.grown {N : Nat} {w : World} {c : Code} {pre : List (FV × Bool)} {W1 W2 : World} {row : Option Nat} (hN : N = w.heap.size) (h : SX N w c pre W1) (hg : W1.grownBy W2 row) (hr : ∀ r, row = some r → N + 4 ≤ r ∧ r < N + 7) : SX N w c pre W2 := by
  obtain ⟨h1, h2, h4, h5, h6⟩ := h
  have ne : ∀ k, k < N + 4 → some k ≠ row := fun k hk e => by have := hr k e.symm; omega
  exact ⟨h1, h2, grown_at hg h4 (ne _ (by omega)), grown_at hg h5 (ne _ (by omega)), h6.grown hg (by have := h6.size; omega) (fun k e => by have := (hr k e).1; omega)⟩
theorem SA.grown {N : Nat} {w : World} {s : ByteArray} {pre : List (FV × Bool)} {x : FV × Bool} {a : Act} {W1 W2 : World} {row : Option Nat} (hN : N = w.heap.size) (h : SA N w s pre x a W1) (hg : W1.grownBy W2 row) (hr : ∀ r, row = some r → N + 4 ≤ r ∧ r < N + 7) : SA N w s pre x a W2 := by
  obtain ⟨h1, h2, bx, h3, h4, h5⟩ := h
  exact ⟨h1.grown hN hg hr, h2, bx, h3, grown_at hg h4 (fun e => by have := hr bx e.symm; omega), h5⟩
theorem W.begun_bad {l : List UInt8} {fs : List FV} {x : FV} (h : W.Begun l (W.goods fs ++ [(x, false)])) : W.LineF l fs false := by
  obtain ⟨fs', ok, t, hl, e⟩ := h
  have key : ∀ (a b : List FV) (ok : Bool) (t : List (FV × Bool)), W.goods a ++ (if ok = true then [] else [(([], false), false)]) = (W.goods b ++ [(x, false)]) ++ t → a = b ∧ ok = false := by
    intro a
    induction a with
    | nil =>
      intro b ok t e
      cases b with
      | nil =>
        cases ok with
        | true => simp [W.goods] at e
        | false => exact ⟨rfl, rfl⟩
      | cons f b => cases ok <;> simp [W.goods] at e
    | cons f a ih =>
      intro b ok t e
      cases b with
      | nil => simp [W.goods] at e
      | cons f' b =>
        simp only [W.goods, List.map_cons, List.cons_append, List.cons.injEq] at e
        obtain ⟨e1, e2⟩ := ih b ok t e.2
        exact ⟨by rw [e1, (Prod.mk.inj e.1).1], e2⟩
  obtain ⟨rfl, rfl⟩ := key _ _ _ _ e
  exact hl
theorem W.yields_goods {a b : List FV} {ok : Bool} (h : W.yields a ok = W.goods b) : a = b ∧ ok = true := by
  have inj : ∀ (a b : List FV), W.goods a = W.goods b → a = b := by
    intro a
    induction a with
    | nil => intro b h; cases b with
      | nil => rfl
      | cons f b => simp [W.goods] at h
    | cons f a ih => intro b h; cases b with
      | nil => simp [W.goods] at h
      | cons f' b =>
        simp only [W.goods, List.map_cons, List.cons.injEq] at h
        rw [ih b h.2, (Prod.mk.inj h.1).1]
  cases ok with
  | true => exact ⟨inj _ _ (by simpa [W.yields] using h), rfl⟩
  | false =>
    have : (([], false), false) ∈ W.goods b := by rw [← h]; simp [W.yields]
    simp [W.goods] at this
theorem W.lex_len : ∀ (fs : List FV) (r : List UInt8) (ok : Bool), W.Lex r fs ok → fs.length ≤ r.length
  | [], _, _, _ => by simp
  | f :: fs, r, ok, h => by
    obtain ⟨n, hf, hb, h⟩ := h
    have hn : n ≠ 0 := fun e => hb (Or.inl e)
    have hle := W.fread_le hf
    rcases h with ⟨_, rfl, _⟩ | ⟨hlt, hl⟩
    · simp; omega
    · have := W.lex_len fs _ ok hl
      rw [List.length_drop] at this
      simp only [List.length_cons]
      omega
theorem W.yields_len {s : ByteArray} {fs : List FV} {ok : Bool} (h : W.LineF s.data.toList fs ok) (hs : s.size ≤ 8192) : fs.length ≤ 140737488351232 := by
  have hl : s.data.toList.length = s.size := rfl
  rcases h with ⟨_, rfl, _⟩ | ⟨_, h⟩
  · simp
  · have := W.lex_len _ _ _ h
    omega
theorem info_field : (Tryd.prog.info? 45).map (fun i => (i.zero, i.size, i.bytes)) = some (some (.agg #[.string ⟨#[]⟩, .bool false]), 2, 24) := by kernel_rfl

set_option maxRecDepth 100000 in
set_option maxHeartbeats 4000000 in
theorem Split_short (s : ByteArray) (w : World) (hE : EscIn w) (hs : s.size ≤ 8192) :
    Calls Tryd.prog 21 #[.string s] w fun e w' => ∃ v fs x, e = .returned (.tuple #[v, .int .i64 x]) ∧ Fields w' w.heap.size v fs ∧ W.splitE s.data.toList fs x ∧ Below w.heap.size w w' := by
  have hs' : s.size ≤ maxLen := by unfold maxLen; omega
  have h8 : decide (8192 < (s.size : Int)) = false := decide_eq_false (by omega)
  have hpos : 0 < w.heap.size := by obtain ⟨t, fr, h⟩ := hE; exact (Array.getElem?_eq_some_iff.1 h).1
  refine (callsIn_wide (n := 3)).1 ?_
  refine callsIn_of_wp_marks Tryd.func21 rfl trivial ?_ rfl
  simp only [Tryd.ntmps21, List.size_toArray, List.length_cons, List.length_nil, Nat.reduceAdd, Nat.reduceSub, Array.replicate_succ, Array.replicate_zero, List.push_toArray, List.append_toArray, List.nil_append, List.cons_append]
  gi_wp2_with (first | (refine ⟨trivial, ?_⟩; gi_at_call 42; refine (callsIn_wide.2 (fields_any _ _)).mono ?_; rintro e w' ⟨rfl, rfl⟩))
  clear h8
  obtain ⟨W4, hW4⟩ : ∃ W4, (((w.alloc (Obj.cells #[Value.slice none 0 0] 32)).alloc (Obj.cells #[Value.int IntKind.i64 0] 23)).alloc (Obj.cells #[Value.slice none 0 0] 32)).alloc (Obj.cells #[Value.string s] 9) = W4 := ⟨_, rfl⟩
  have hsz4 : W4.heap.size = w.heap.size + 4 := by rw [← hW4]; simp
  have hB4 : Below w.heap.size w W4 := by rw [← hW4]; exact ((((Below.refl _ _).alloc (Nat.le_refl _) _).alloc (by simp) _).alloc (by simp; omega) _).alloc (by simp; omega) _
  have hb3 : W4.heap[w.heap.size + 1 + 1 + 1]? = some (.cells #[.string s] 9 (0, 0)) := by
    rw [← hW4]
    have := World.alloc_heap_new (((w.alloc (Obj.cells #[Value.slice none 0 0] 32)).alloc (Obj.cells #[Value.int IntKind.i64 0] 23)).alloc (Obj.cells #[Value.slice none 0 0] 32)) (Obj.cells #[Value.string s] 9)
    rwa [World.size_alloc, World.size_alloc, World.size_alloc] at this
  have hc3 : W4.cell? ⟨w.heap.size + 1 + 1 + 1, 0, none⟩ = some (.string s) := by simp [World.cell?, hb3]
  have hb0 : W4.heap[w.heap.size]? = some (.cells #[.slice none 0 0] 32 (0, 0)) := by
    rw [← hW4]
    have hx : ∀ (X : World) (o : Obj), w.heap.size < X.heap.size → (X.alloc o).heap[w.heap.size]? = X.heap[w.heap.size]? := fun X o h => Below.heap_alloc X o _ h
    rw [hx _ _ (by repeat rw [World.size_alloc]
                   omega), hx _ _ (by repeat rw [World.size_alloc]
                                      omega), hx _ _ (by rw [World.size_alloc]; omega)]
    exact World.alloc_heap_new w _
  have hb1 : W4.heap[w.heap.size + 1]? = some (.cells #[.int .i64 0] 23 (0, 0)) := by
    rw [← hW4]
    have hx : ∀ (X : World) (o : Obj), w.heap.size + 1 < X.heap.size → (X.alloc o).heap[w.heap.size + 1]? = X.heap[w.heap.size + 1]? := fun X o h => Below.heap_alloc X o _ h
    rw [hx _ _ (by repeat rw [World.size_alloc]
                   omega), hx _ _ (by repeat rw [World.size_alloc]
                                      omega)]
    have := World.alloc_heap_new (w.alloc (Obj.cells #[Value.slice none 0 0] 32)) (Obj.cells #[Value.int IntKind.i64 0] 23)
    rwa [World.size_alloc] at this
  have hb2 : W4.heap[w.heap.size + 1 + 1]? = some (.cells #[.slice none 0 0] 32 (0, 0)) := by
    rw [← hW4]
    have hx : ∀ (X : World) (o : Obj), w.heap.size + 1 + 1 < X.heap.size → (X.alloc o).heap[w.heap.size + 1 + 1]? = X.heap[w.heap.size + 1 + 1]? := fun X o h => Below.heap_alloc X o _ h
    rw [hx _ _ (by repeat rw [World.size_alloc]
                   omega)]
    have := World.alloc_heap_new ((w.alloc (Obj.cells #[Value.slice none 0 0] 32)).alloc (Obj.cells #[Value.int IntKind.i64 0] 23)) (Obj.cells #[Value.slice none 0 0] 32)
    rwa [World.size_alloc, World.size_alloc] at this
  rw [hW4]
  have hE4 := hE.below hB4
  have hiter := fields_iter 2 (by omega) s hs (w.heap.size + 1 + 1 + 1) (W4.heap.size + 2) W4 (by omega) (by omega) hE4 hc3
  have hrow : ∀ {row : Option Nat}, (∀ r, row = some r → r = W4.heap.size ∨ r = W4.heap.size + 1 ∨ r = W4.heap.size + 2) → ∀ r, row = some r → w.heap.size + 4 ≤ r ∧ r < w.heap.size + 7 := fun h r e => by
    have := h r e
    omega
  refine wpIn_rangeFunc_cells rfl (by omega) rfl trivial (enters_of Tryd.func66 (by kernel_rfl) rfl) (fun _ => rfl)
    (by rintro k (rfl | rfl | rfl) <;> omega) hiter (SI w.heap.size w) (SX w.heap.size w) (SA w.heap.size w s)
    (fun pre X Y row h hg hr => h.grown rfl hg (hrow hr)) (fun c pre X Y row h hg hr => h.grown rfl hg (hrow hr)) (fun pre x a X Y row h hg hr => h.grown rfl hg (hrow hr))
    ⟨[], _, rfl, hb2, World.ownsRow_nil _ _ _ _, hb0, hb1, hB4⟩ ?assign ?body ?done ?stop
  case assign =>
    intro l pre x Wd K hI hlen hlt hK
    have hK' : ∀ a₁, SA w.heap.size w s pre x a₁ (Wd.alloc (.cells #[.string ⟨x.1.1.toArray⟩, .bool x.1.2] 45)) → K a₁ (Wd.alloc (.cells #[.string ⟨x.1.1.toArray⟩, .bool x.1.2] 45)) := fun a₁ h =>
      hK a₁ _ (KeepsOthers.alloc _ _) (fun k hk => Below.heap_alloc _ _ k (by rcases hk with rfl | rfl | rfl <;> omega)) h
    have HK := Lib.hid hK'
    have hA : ∀ a₁, a₁ = _ → SA w.heap.size w s pre x a₁ (Wd.alloc (.cells #[.string ⟨x.1.1.toArray⟩, .bool x.1.2] 45)) := fun a₁ e =>
      ⟨hI.grown rfl (World.grownBy_alloc _ _ none) (fun r e => by cases e), hlen, Wd.heap.size, by omega, World.alloc_heap_new _ _, e⟩
    have HA := Lib.hid hA
    clear hK hK' hA hI hiter hb0 hb1 hb2 hb3 hc3 hW4 hE hE4 hB4 hrow
    dsimp only [encF]
    gi_wp2_with fail
    exact HK.out _ (HA.out _ rfl)
  case body =>
    rintro l pre x a Wd ⟨⟨fs, v, hpre, hv, hown, hr0, hr1, hbel⟩, hlen, bx, hbx, hblk, rfl⟩ hlt
    have hgo : ∀ {row : Option Nat}, True := trivial
    clear hiter hb0 hb1 hb2 hb3 hc3 hW4 hE hE4 hB4 hrow
    obtain ⟨⟨t, q⟩, ok⟩ := x
    have hx0 : Wd.cell? ⟨bx, 0, none⟩ = some (.string ⟨t.toArray⟩) := by simp [World.cell?, hblk]
    have hx1 : Wd.cell? ⟨bx, 1, none⟩ = some (.bool q) := by simp [World.cell?, hblk]
    have hv0 : Wd.cell? ⟨w.heap.size + 1 + 1, 0, none⟩ = some v := by simp [World.cell?, hv]
    have hvf : Wd.frozen? ⟨w.heap.size + 1 + 1, 0, none⟩ = false := by simp [World.frozen?, hv]
    have hf0 : Wd.frozen? ⟨w.heap.size, 0, none⟩ = false := by simp [World.frozen?, hr0]
    have hf1 : Wd.frozen? ⟨w.heap.size + 1, 0, none⟩ = false := by simp [World.frozen?, hr1]
    have hc0 : Wd.cell? ⟨w.heap.size, 0, none⟩ = some (.slice none 0 0) := by simp [World.cell?, hr0]
    have hc1 : Wd.cell? ⟨w.heap.size + 1, 0, none⟩ = some (.int .i64 0) := by simp [World.cell?, hr1]
    have Hpre := Lib.hid hpre
    have Hv := Lib.hid hv
    have Hr0 := Lib.hid hr0
    have Hr1 := Lib.hid hr1
    have Hblk := Lib.hid hblk
    have Hlen := Lib.hid hlen
    clear hpre hv hr0 hr1 hblk hgo
    have hNs : w.heap.size + 7 ≤ Wd.heap.size := by omega
    cases ok
    · gi_wp2_with fail
      refine ⟨(KeepsOthers.setCell _ _ _).trans (KeepsOthers.setCell _ _ _), rfl, ⟨fs, (t, q), by rw [Hpre.out]⟩, ?_, ?_, ?_⟩
      · exact grown_at (grown_setCell _ _ _ _) (setCell_block _ Hr0.out) (fun e => by have := Option.some.inj e; omega)
      · exact setCell_block _ (grown_at (grown_setCell _ _ _ _) Hr1.out (fun e => by have := Option.some.inj e; omega))
      · exact (hbel.setCell (p := ⟨w.heap.size, 0, none⟩) (Nat.le_refl _) _).setCell (p := ⟨w.heap.size + 1, 0, none⟩) (by simp) _
    · obtain ⟨i0, hi, hz0, hz1, hz2⟩ := info_parts info_field
      have hfl : fs.length ≤ 8192 := by have h1 := Hlen.out; rw [Hpre.out] at h1; simpa [W.goods] using h1
      gi_wp2_with (first | (gi_at_builtin; refine wpListIn_append_own _ rfl _ _ 32 rfl (w.heap.size + 7) 45 i0 _ 2 24 Tryd.underlying32 hi hz0 hz1 hz2 rfl (by decide) _ _ _ rfl (hown.alloc _) ⟨Wd.heap.size, 0, none⟩ 1 1 [.string ⟨t.toArray⟩, .bool q] rfl rfl ?c1 ?c2 ?c3 ?c4 ?c5 ?_))
      case c2 => exact ⟨rfl, rfl⟩
      case c3 => unfold maxLen; omega
      case c4 => omega
      case c5 => first | omega | (simp; omega)
      · intro v' W2 hown' hgrow _
        obtain ⟨g', cap', rfl⟩ := ownsRow_succ hown'
        have hrow2 : ∀ r, v.ownBlock = some r → w.heap.size + 7 ≤ r := fun r e => (hown.lt r e).1
        have at2 : ∀ k o, k < w.heap.size + 7 → Wd.heap[k]? = some o → W2.heap[k]? = some o := fun k o hk h =>
          grown_at hgrow ((Below.heap_alloc _ _ k (by omega)).trans h) (fun e => by have := hrow2 k e.symm; omega)
        have hv2 := at2 _ _ (by omega) Hv.out
        have hcv2 : W2.cell? ⟨w.heap.size + 1 + 1, 0, none⟩ = some v := by simp [World.cell?, hv2]
        have hfv2 : W2.frozen? ⟨w.heap.size + 1 + 1, 0, none⟩ = false := by simp [World.frozen?, hv2]
        have hko : KeepsOthers Wd W2 := (KeepsOthers.alloc _ _).trans (KeepsOthers.of_grownBy hgrow (fun j o hj ho => by
          rcases hown.2 with ⟨rfl, _⟩ | ⟨g, cap, cur, rfl, _, hg, _⟩
          · cases hj
          · obtain rfl := Option.some.inj hj
            have h1 := (Below.heap_alloc Wd (.cells #[.string ⟨t.toArray⟩, .bool q] 45) g (Array.getElem?_eq_some_iff.1 hg).1).trans hg
            rw [h1] at ho
            obtain rfl := Option.some.inj ho
            rfl))
        have hkp : ∀ k, (k = w.heap.size + 4 + 2 ∨ k = w.heap.size + 1 + 1 + 1 ∨ k = 0) → W2.heap[k]? = Wd.heap[k]? := fun k hk => by
          have hk7 : k < w.heap.size + 7 := by rcases hk with rfl | rfl | rfl <;> omega
          have hks : k < Wd.heap.size := by omega
          exact (hgrow.block k (by simp; omega) (fun e => by have := hrow2 k e.symm; omega)).trans (Below.heap_alloc _ _ k hks)
        have hbel2 : Below w.heap.size w W2 := (hbel.alloc (by omega) _).grown hgrow (by simp; omega) (fun k e => by have := hrow2 k e; omega)
        have Hown := Lib.hid hown'
        have Hr02 := Lib.hid (at2 _ _ (by omega) Hr0.out)
        have Hr12 := Lib.hid (at2 _ _ (by omega) Hr1.out)
        have Hv2 := Lib.hid hv2
        have Hkp := Lib.hid hkp
        clear hown' hgrow at2 hv2 hkp
        gi_wp2_with fail
        refine ⟨hko.trans (KeepsOthers.setCell _ _ _), fun k hk => ?_, fs ++ [(t, q)], _, ?_, setCell_block _ Hv2.out, ?_, ?_, ?_, ?_⟩
        · exact (Below.heap_setCell _ _ _ k (by show k ≠ w.heap.size + 1 + 1; rcases hk with rfl | rfl | rfl <;> omega)).trans (Hkp.out k (by rcases hk with h | h | h; exact Or.inl (by omega); exact Or.inr (Or.inl h); exact Or.inr (Or.inr h)))
        · rw [Hpre.out]; simp [W.goods]
        · refine own_grown ?_ (grown_setCell W2 (w.heap.size + 1 + 1) 0 _) (fun r e => by have := Option.some.inj e; omega)
          have h1 := Hown.out
          rw [List.length_append, show (fCells (fs ++ [(t, q)])) = fCells fs ++ [.string ⟨t.toArray⟩, .bool q] from by simp [fCells]]
          exact h1
        · exact grown_at (grown_setCell _ _ _ _) Hr02.out (fun e => by have := Option.some.inj e; omega)
        · exact grown_at (grown_setCell _ _ _ _) Hr12.out (fun e => by have := Option.some.inj e; omega)
        · exact hbel2.setCell (p := ⟨w.heap.size + 1 + 1, 0, none⟩) (by show w.heap.size ≤ w.heap.size + 1 + 1; omega) _
  case done =>
    rintro xs Wd ⟨fs', ok, hl, rfl⟩ ⟨fs, v, hpre, hv, hown, hr0, hr1, hbel⟩ hK
    clear hiter hb0 hb1 hb2 hb3 hc3 hW4 hE hE4 hB4 hrow
    obtain ⟨rfl, rfl⟩ := W.yields_goods hpre
    have hNs : w.heap.size + 4 < Wd.heap.size := by have := (Array.getElem?_eq_some_iff.1 hK).1; omega
    have hv0 : Wd.cell? ⟨w.heap.size + 1 + 1, 0, none⟩ = some v := by simp [World.cell?, hv]
    have hf0 : Wd.frozen? ⟨w.heap.size, 0, none⟩ = false := by simp [World.frozen?, hr0]
    have hf1 : Wd.frozen? ⟨w.heap.size + 1, 0, none⟩ = false := by simp [World.frozen?, hr1]
    have hc0 : Wd.cell? ⟨w.heap.size, 0, none⟩ = some (.slice none 0 0) := by simp [World.cell?, hr0]
    have hc1 : Wd.cell? ⟨w.heap.size + 1, 0, none⟩ = some (.int .i64 0) := by simp [World.cell?, hr1]
    have Hlong := Lib.hid (tooLong_any (w.heap.size + 7) v fs' Wd hown (W.yields_len hl hs))
    have Hl := Lib.hid hl
    have Hown := Lib.hid hown
    have HK := Lib.hid hK
    have Hr0 := Lib.hid hr0
    have Hr1 := Lib.hid hr1
    clear hl hown hK hpre hv hr0 hr1
    gi_wp2_with fail
    refine ⟨trivial, ?_⟩
    refine (callsIn_wide.2 Hlong.out).mono ?_
    rintro e w1 ⟨rfl, hb1⟩
    have hsz1 := hb1.size
    have hr0' := (hb1.block _ (by omega)).trans Hr0.out
    have hr1' := (hb1.block _ (by omega)).trans Hr1.out
    have hK1 := (hb1.block _ (by omega)).trans HK.out
    have hbel1 := hbel.trans (hb1.mono hbel.size)
    have hown1 := own_below Hown.out hb1
    have hv1 : w1.cell? ⟨w.heap.size + 1 + 1, 0, none⟩ = some v := (hb1.cell (p := ⟨w.heap.size + 1 + 1, 0, none⟩) (by show w.heap.size + 1 + 1 < _; omega)).trans hv0
    clear hv0 hf0 hf1 hc0 hc1
    have hf0 : w1.frozen? ⟨w.heap.size, 0, none⟩ = false := by simp [World.frozen?, hr0']
    have hf1 : w1.frozen? ⟨w.heap.size + 1, 0, none⟩ = false := by simp [World.frozen?, hr1']
    have hc0 : w1.cell? ⟨w.heap.size, 0, none⟩ = some (.slice none 0 0) := by simp [World.cell?, hr0']
    have hc1 : w1.cell? ⟨w.heap.size + 1, 0, none⟩ = some (.int .i64 0) := by simp [World.cell?, hr1']
    have Hr0' := Lib.hid hr0'
    have Hr1' := Lib.hid hr1'
    have HK1 := Lib.hid hK1
    have Hown1 := Lib.hid hown1
    clear hr0' hr1' hK1 hown1 hb1
    by_cases hlg : W.longF fs' = true
    · have Hlg := Lib.hid hlg
      gi_wp2_with fail
      obtain ⟨V, hV⟩ : ∃ V, (w1.setCell ⟨w.heap.size, 0, none⟩ (.slice none 0 0)).setCell ⟨w.heap.size + 1, 0, none⟩ (.int .i64 3) = V := ⟨_, rfl⟩
      have h0V : V.heap[w.heap.size]? = some (.cells #[.slice none 0 0] 32 (0, 0)) := by
        rw [← hV]; exact grown_at (grown_setCell _ _ _ _) (setCell_block _ Hr0'.out) (fun e => by have := Option.some.inj e; omega)
      have h1V : V.heap[w.heap.size + 1]? = some (.cells #[.int .i64 3] 23 (0, 0)) := by
        rw [← hV]; exact setCell_block _ (grown_at (grown_setCell _ _ _ _) Hr1'.out (fun e => by have := Option.some.inj e; omega))
      have hKV : V.heap[w.heap.size + 4]? = some (.deferred (some [])) := by
        rw [← hV, ← hsz4]; exact grown_at (grown_setCell _ _ _ _) (grown_at (grown_setCell _ _ _ _) HK1.out (fun e => by have := Option.some.inj e; omega)) (fun e => by have := Option.some.inj e; omega)
      have hbV : Below w.heap.size w V := by
        rw [← hV]; exact (hbel1.setCell (p := ⟨w.heap.size, 0, none⟩) (Nat.le_refl _) _).setCell (p := ⟨w.heap.size + 1, 0, none⟩) (by simp) _
      rw [hV]
      refine ⟨by simp, .inl ⟨_, _, rfl, run_takeDeferred hKV, ?_⟩⟩
      refine ⟨.tuple #[.slice none 0 0, .int .i64 3], ?_, .slice none 0 0, [], 3, rfl, World.ownsRow_nil _ _ _ _, Or.inr ⟨hs, fs', true, Hl.out, Or.inr (Or.inl ⟨rfl, Hlg.out, rfl, rfl⟩)⟩, hbV.grown (grownBy_putObj' _ _ _) hbV.size (fun k e => by have := Option.some.inj e; omega)⟩
      have c0 : (V.putObj (w.heap.size + 4) (.deferred none)).cell? ⟨w.heap.size, 0, none⟩ = some (.slice none 0 0) := by
        simp [World.cell?, (World.putObj_heap_other (w := V) (r := w.heap.size + 4) (k := w.heap.size) (o := .deferred none) (by omega)), h0V]
      have c1 : (V.putObj (w.heap.size + 4) (.deferred none)).cell? ⟨w.heap.size + 1, 0, none⟩ = some (.int .i64 3) := by
        simp [World.cell?, (World.putObj_heap_other (w := V) (r := w.heap.size + 4) (k := w.heap.size + 1) (o := .deferred none) (by omega)), h1V]
      simp [results, Tryd.f21, go_sem, c0, c1]
    · have hlg' : W.longF fs' = false := by simpa using hlg
      have Hlg := Lib.hid hlg'
      clear hlg
      have hown2 : ∀ X, X = (w1.setCell ⟨w.heap.size, 0, none⟩ v).setCell ⟨w.heap.size + 1, 0, none⟩ (.int .i64 0) → Fields (X.putObj (w.heap.size + 4) (.deferred none)) w.heap.size v fs' := fun X hX => by
        rw [hX]
        have a1 := own_grown Hown1.out (grown_setCell w1 w.heap.size 0 v) (fun r e => by have := Option.some.inj e; omega)
        have a2 := own_grown a1 (grown_setCell (w1.setCell ⟨w.heap.size, 0, none⟩ v) (w.heap.size + 1) 0 (.int .i64 0)) (fun r e => by have := Option.some.inj e; omega)
        have a3 := own_grown a2 (grownBy_putObj' ((w1.setCell ⟨w.heap.size, 0, none⟩ v).setCell ⟨w.heap.size + 1, 0, none⟩ (.int .i64 0)) (w.heap.size + 4) (.deferred none)) (fun r e => by have := Option.some.inj e; omega)
        exact own_mono a3 (by omega)
      have Hown2 := Lib.hid hown2
      clear hown2
      have hshape := Hown1.out.2
      rcases hshape with ⟨rfl, _⟩ | ⟨g, cap, cur, rfl, _⟩
      · gi_wp2_with fail
        obtain ⟨V, hV⟩ : ∃ V, (w1.setCell ⟨w.heap.size, 0, none⟩ (.slice none 0 0)).setCell ⟨w.heap.size + 1, 0, none⟩ (.int .i64 0) = V := ⟨_, rfl⟩
        have h0V : V.heap[w.heap.size]? = some (.cells #[.slice none 0 0] 32 (0, 0)) := by
          rw [← hV]; exact grown_at (grown_setCell _ _ _ _) (setCell_block _ Hr0'.out) (fun e => by have := Option.some.inj e; omega)
        have h1V : V.heap[w.heap.size + 1]? = some (.cells #[.int .i64 0] 23 (0, 0)) := by
          rw [← hV]; exact setCell_block _ (grown_at (grown_setCell _ _ _ _) Hr1'.out (fun e => by have := Option.some.inj e; omega))
        have hKV : V.heap[w.heap.size + 4]? = some (.deferred (some [])) := by
          rw [← hV, ← hsz4]; exact grown_at (grown_setCell _ _ _ _) (grown_at (grown_setCell _ _ _ _) HK1.out (fun e => by have := Option.some.inj e; omega)) (fun e => by have := Option.some.inj e; omega)
        have hbV : Below w.heap.size w V := by
          rw [← hV]; exact (hbel1.setCell (p := ⟨w.heap.size, 0, none⟩) (Nat.le_refl _) _).setCell (p := ⟨w.heap.size + 1, 0, none⟩) (by simp) _
        have hoV := Hown2.out V hV.symm
        rw [hV]
        refine ⟨by simp, .inl ⟨_, _, rfl, run_takeDeferred hKV, ?_⟩⟩
        refine ⟨.tuple #[.slice none 0 0, .int .i64 0], ?_, _, fs', 0, rfl, hoV, Or.inr ⟨hs, fs', true, Hl.out, Or.inr (Or.inr ⟨rfl, Hlg.out, rfl, rfl⟩)⟩, hbV.grown (grownBy_putObj' _ _ _) hbV.size (fun k e => by have := Option.some.inj e; omega)⟩
        have c0 : (V.putObj (w.heap.size + 4) (.deferred none)).cell? ⟨w.heap.size, 0, none⟩ = some (.slice none 0 0) := by
          simp [World.cell?, (World.putObj_heap_other (w := V) (r := w.heap.size + 4) (k := w.heap.size) (o := .deferred none) (by omega)), h0V]
        have c1 : (V.putObj (w.heap.size + 4) (.deferred none)).cell? ⟨w.heap.size + 1, 0, none⟩ = some (.int .i64 0) := by
          simp [World.cell?, (World.putObj_heap_other (w := V) (r := w.heap.size + 4) (k := w.heap.size + 1) (o := .deferred none) (by omega)), h1V]
        simp [results, Tryd.f21, go_sem, c0, c1]
      · gi_wp2_with fail
        obtain ⟨V, hV⟩ : ∃ V, (w1.setCell ⟨w.heap.size, 0, none⟩ (.slice (some ⟨g, 0, none⟩) fs'.length cap)).setCell ⟨w.heap.size + 1, 0, none⟩ (.int .i64 0) = V := ⟨_, rfl⟩
        have h0V : V.heap[w.heap.size]? = some (.cells #[.slice (some ⟨g, 0, none⟩) fs'.length cap] 32 (0, 0)) := by
          rw [← hV]; exact grown_at (grown_setCell _ _ _ _) (setCell_block _ Hr0'.out) (fun e => by have := Option.some.inj e; omega)
        have h1V : V.heap[w.heap.size + 1]? = some (.cells #[.int .i64 0] 23 (0, 0)) := by
          rw [← hV]; exact setCell_block _ (grown_at (grown_setCell _ _ _ _) Hr1'.out (fun e => by have := Option.some.inj e; omega))
        have hKV : V.heap[w.heap.size + 4]? = some (.deferred (some [])) := by
          rw [← hV, ← hsz4]; exact grown_at (grown_setCell _ _ _ _) (grown_at (grown_setCell _ _ _ _) HK1.out (fun e => by have := Option.some.inj e; omega)) (fun e => by have := Option.some.inj e; omega)
        have hbV : Below w.heap.size w V := by
          rw [← hV]; exact (hbel1.setCell (p := ⟨w.heap.size, 0, none⟩) (Nat.le_refl _) _).setCell (p := ⟨w.heap.size + 1, 0, none⟩) (by simp) _
        have hoV := Hown2.out V hV.symm
        rw [hV]
        refine ⟨by simp, .inl ⟨_, _, rfl, run_takeDeferred hKV, ?_⟩⟩
        refine ⟨.tuple #[.slice (some ⟨g, 0, none⟩) fs'.length cap, .int .i64 0], ?_, _, fs', 0, rfl, hoV, Or.inr ⟨hs, fs', true, Hl.out, Or.inr (Or.inr ⟨rfl, Hlg.out, rfl, rfl⟩)⟩, hbV.grown (grownBy_putObj' _ _ _) hbV.size (fun k e => by have := Option.some.inj e; omega)⟩
        have c0 : (V.putObj (w.heap.size + 4) (.deferred none)).cell? ⟨w.heap.size, 0, none⟩ = some (.slice (some ⟨g, 0, none⟩) fs'.length cap) := by
          simp [World.cell?, (World.putObj_heap_other (w := V) (r := w.heap.size + 4) (k := w.heap.size) (o := .deferred none) (by omega)), h0V]
        have c1 : (V.putObj (w.heap.size + 4) (.deferred none)).cell? ⟨w.heap.size + 1, 0, none⟩ = some (.int .i64 0) := by
          simp [World.cell?, (World.putObj_heap_other (w := V) (r := w.heap.size + 4) (k := w.heap.size + 1) (o := .deferred none) (by omega)), h1V]
        simp [results, Tryd.f21, go_sem, c0, c1]
  case stop =>
    rintro c pre V hbg ⟨rfl, ⟨fs, x, rfl⟩, h0V, h1V, hbV⟩ hKV
    rw [hsz4] at hKV
    have hl := W.begun_bad hbg
    have Hl := Lib.hid hl
    have H0 := Lib.hid h0V
    have H1 := Lib.hid h1V
    have HK := Lib.hid hKV
    clear hiter hb0 hb1 hb2 hb3 hc3 hW4 hE hE4 hB4 hrow hl hbg h0V h1V hKV
    gi_wp2_with fail
    have h0V := H0.out
    have h1V := H1.out
    have hKV := HK.out
    simp only [hsz4]
    refine ⟨by simp, .inl ⟨_, _, rfl, run_takeDeferred hKV, ?_⟩⟩
    refine ⟨.tuple #[.slice none 0 0, .int .i64 6], ?_, _, [], 6, rfl, World.ownsRow_nil _ _ _ _, Or.inr ⟨hs, fs, false, Hl.out, Or.inl ⟨rfl, rfl, rfl⟩⟩, hbV.grown (grownBy_putObj' _ _ _) hbV.size (fun k e => by have := Option.some.inj e; omega)⟩
    have c0 : (V.putObj (w.heap.size + 4) (.deferred none)).cell? ⟨w.heap.size, 0, none⟩ = some (.slice none 0 0) := by
      simp [World.cell?, (World.putObj_heap_other (w := V) (r := w.heap.size + 4) (k := w.heap.size) (o := .deferred none) (by omega)), h0V]
    have c1 : (V.putObj (w.heap.size + 4) (.deferred none)).cell? ⟨w.heap.size + 1, 0, none⟩ = some (.int .i64 6) := by
      simp [World.cell?, (World.putObj_heap_other (w := V) (r := w.heap.size + 4) (k := w.heap.size + 1) (o := .deferred none) (by omega)), h1V]
    simp [results, Tryd.f21, go_sem, c0, c1]

/-- What Split returns, of any line. -/
theorem Split_any (s : ByteArray) (w : World) (hE : EscIn w) (hs : s.size ≤ 140737488351232) :
    Calls Tryd.prog 21 #[.string s] w fun e w' => ∃ v fs x, e = .returned (.tuple #[v, .int .i64 x]) ∧ Fields w' w.heap.size v fs ∧ W.splitE s.data.toList fs x ∧ Below w.heap.size w w' := by
  by_cases h : s.size ≤ 8192
  · exact Split_short s w hE h
  · exact (Split_long s w (by omega) hs).mono fun e w' ⟨he, hb⟩ => ⟨_, [], 3, he, World.ownsRow_nil _ _ _ _, Or.inl ⟨by show 8192 < s.size; omega, rfl, rfl⟩, hb⟩
end Go.Proofs.YtbjfpmklmhgbdaaDoor
