/- HeapsSorts. -/
import Derived.Test.YtdkfaepmgennjaaHpMade
import Derived.Laws.MakeOwn
namespace Go.Proofs.Ytdkfaepmgennjaa
open Go.RowKit Go.Maps
open H (IT)
set_option linter.unusedSimpArgs false
set_option maxRecDepth 100000
theorem info_bool : (Try.prog.info? 4).map (fun i => (i.zero, i.size, i.bytes)) = some (some (.bool false), 1, 1) := by kernel_rfl
theorem bool_parts : ∃ i0, Try.prog.info? 4 = some i0 ∧ i0.zero = some (.bool false) ∧ i0.size = 1 ∧ i0.bytes = 1 := by
  have h := info_bool
  cases e : Try.prog.info? 4 with
  | none => rw [e] at h; cases h
  | some i => rw [e] at h; simp only [Option.map_some, Option.some.injEq, Prod.mk.injEq] at h; exact ⟨i, rfl, h.1, h.2.1, h.2.2⟩
/-- Block gs holds m bools: those of f. -/
def Seen (w : World) (gs m : Nat) (f : Nat → Bool) : Prop := ∃ cs : Array Value, w.heap[gs]? = some (.cells cs 4 (0, 0)) ∧ ∀ k, k < m → cs[k]? = some (.bool (f k))
theorem Seen.cell {w : World} {gs m : Nat} {f : Nat → Bool} (h : Seen w gs m f) {k : Nat} (hk : k < m) : w.cell? ⟨gs, k, none⟩ = some (.bool (f k)) ∧ w.frozen? ⟨gs, k, none⟩ = false := by
  obtain ⟨cs, hr, hc⟩ := h
  exact ⟨by rw [cell_of_row _ _ _ _ _ _ hr]; exact hc k hk, frozen_of_row _ _ _ _ _ hr⟩
theorem Seen.lt {w : World} {gs m : Nat} {f : Nat → Bool} (h : Seen w gs m f) : gs < w.heap.size := by
  obtain ⟨cs, hr, hc⟩ := h
  exact (Array.getElem?_eq_some_iff.1 hr).1
theorem Seen.kept {w w' : World} {gs m : Nat} {f : Nat → Bool} (h : Seen w gs m f) (hb : w'.heap[gs]? = w.heap[gs]?) : Seen w' gs m f := by
  obtain ⟨cs, hr, hc⟩ := h
  exact ⟨cs, hb.trans hr, hc⟩
theorem Seen.mark {w : World} {gs m : Nat} {f : Nat → Bool} (h : Seen w gs m f) (j : Nat) (hj : j < m) : Seen (w.setCell ⟨gs, j, none⟩ (.bool true)) gs m (fun k => if k = j then true else f k) := by
  obtain ⟨cs, hr, hc⟩ := h
  refine ⟨_, heap_setCell_same w gs j _ _ (.bool true) hr, fun k hk => ?_⟩
  rw [Array.getElem?_setIfInBounds]
  have hs : j < cs.size := (Array.getElem?_eq_some_iff.1 (hc j hj)).1
  by_cases e : j = k
  · subst e; simp [hs]
  · rw [if_neg e]
    show cs[k]? = some (.bool (if k = j then true else f k))
    rw [if_neg (show ¬ k = j from fun e2 => e e2.symm)]
    exact hc k hk
theorem Seen.made (w : World) (m : Nat) : Seen (w.alloc (.cells (madeCells #[.bool false] m) 4)) w.heap.size m (fun _ => false) :=
  ⟨_, heap_alloc_new w _, fun k hk => by simp [madeCells, hk, Nat.mod_one]⟩
/-- What is left after k values were taken out; (a, last) is the last of them. -/
structure SortI (ord : Int → Int → Bool) (zs : List Int) (m k : Nat) (f : Nat → Bool) (a last : Int) (L : List IT) : Prop where
  len : L.length + k = m
  heap : H.Heap ord L L.length
  all : ∀ x ∈ L, 1 ≤ x.1 ∧ x.1 ≤ m ∧ zs[(x.1 - 1).toNat]? = some x.2 ∧ f (x.1 - 1).toNat = false ∧ (0 < k → H.Le ord (a, last) x)
theorem SortI.start {ord : Int → Int → Bool} {zs : List Int} {m : Nat} {L : List IT} (h : MadeI ord zs m L) : SortI ord zs m 0 (fun _ => false) 0 0 L :=
  ⟨h.len, by rw [h.len]; exact h.heap, fun x hx => ⟨(h.all x hx).1, (h.all x hx).2.1, (h.all x hx).2.2, rfl, fun h => absurd h (Nat.lt_irrefl _)⟩⟩
/-- What the next value is, and what is left then. -/
theorem SortI.next {ord : Int → Int → Bool} (ho : H.Swo ord) {zs : List Int} {m k r : Nat} {f : Nat → Bool} {a last : Int} {L : List IT} (h : SortI ord zs m k f a last L) (hu : H.Uniq L) (hr : L.length = r + 1) :
    ∃ (j : Nat) (va : Int), H.at_ L 0 = ((j : Int) + 1, va) ∧ (H.at_ (H.pre ord L 0) r).2 = va ∧ j < m ∧ zs[j]? = some va ∧ f j = false ∧ (0 < k → H.Le ord (a, last) ((j : Int) + 1, va)) ∧ SortI ord zs m (k + 1) (fun t => if t = j then true else f t) ((j : Int) + 1) va (H.hrem ord L 0) := by
  obtain ⟨s1, s2, s3, s4, s5, s6⟩ := H.hrem_spec ho hr (by have := h.heap; rwa [hr] at this) hu
  have hx := h.all _ s5
  obtain ⟨⟨hd, va⟩, e⟩ : ∃ x, H.at_ L 0 = x := ⟨_, rfl⟩
  rw [e] at hx s3 s4 s6
  simp only at hx s3
  obtain ⟨j, rfl⟩ : ∃ j : Nat, hd = (j : Int) + 1 := ⟨(hd - 1).toNat, by omega⟩
  rw [show ((j : Int) + 1 - 1).toNat = j by omega] at hx
  refine ⟨j, va, e, by rw [s4], by omega, hx.2.2.1, hx.2.2.2.1, hx.2.2.2.2, ⟨by have := h.len; omega, by rw [s1]; exact s2, fun x hx' => ?_⟩⟩
  have h1 := s3 x hx'
  have h2 := h.all x h1.1
  have hne : ¬ (x.1 - 1).toNat = j := fun e2 => h1.2 (by omega)
  exact ⟨h2.1, h2.2.1, h2.2.2.1, by rw [if_neg hne]; exact h2.2.2.2.1, fun _ => s6 x h1.1⟩
theorem le_says {ord : Int → Int → Bool} (ho : H.Swo ord) {a last h va : Int} (hl : H.Le ord (a, last) (h, va)) : ord va last = false ∧ (ord last va = false → ¬ h < a) := by
  have n1 : ¬ (ord va last = true ∨ (ord last va = false ∧ h < a)) := fun e => by
    have := (H.lt_iff ho (h, va) (a, last)).2 e
    unfold H.Le at hl
    rw [hl] at this; cases this
  refine ⟨by cases e : ord va last <;> simp_all, fun e h2 => n1 (.inr ⟨e, h2⟩)⟩
/-- Another block is written. -/
theorem QB.mark {w wr : World} {g gm n N : Nat} {nx : Int} {v : Value} {l : List IT} (h : QB w wr g gm n nx v N l) (gs j : Nat) (u : Value) (h1 : gs ≠ g) (h2 : gs ≠ gm) (h3 : v.ownBlock ≠ some gs) (h4 : w.heap.size ≤ gs) : QB w (wr.setCell ⟨gs, j, none⟩ u) g gm n nx v N l := by
  obtain ⟨D, hD, hS⟩ := h.at_.map
  exact ⟨⟨(heap_setCell_other _ _ _ _ (fun e => h1 e.symm)).trans h.at_.row, h.at_.own.kept (fun b hb => heap_setCell_other _ _ _ _ (fun e => h3 (by rw [hb, e]))), ⟨D, hD.kept (row := some gs) (gset ⟨rfl, rfl, rfl, Nat.le_refl _, fun _ _ _ => rfl⟩ j u) (fun e => h2 (by injection e with e; exact e.symm)), hS⟩, h.at_.ngm, h.at_.ng, h.at_.nm, h.at_.uniq, h.at_.wf⟩, h.hg, h.hgm, h.hv, h.bel.setCell (p := ⟨gs, j, none⟩) h4 u⟩
set_option maxHeartbeats 4000000 in
theorem sorts_main (b : Nat) (n : Nat) (ord : Int → Int → Bool) (ho : OrdN n ord) (hs : H.Swo ord) (horder : ∀ w, Calls Try.prog 12 #[.int .u8 (b : Int)] w fun e w' => e = .returned (.func (.func n) #[] #[]) ∧ w = w')
    (A : Option Addr) (c m : Nat) (zs : List Int) (w : World) (hl : NumIn w w.heap.size A c zs) (hm : zs.length = m) (h300 : m ≤ 300) :
    Calls Try.prog 5 #[.int .u8 (b : Int), .slice A m c] w fun e w' => e = .returned (.bool true) ∧ Below w.heap.size w w' := by
  have HMd := Lib.hid (made_any b n ord ho hs horder A c m zs w hl hm h300)
  have HO := Lib.hid horder
  have HOrd := Lib.hid ho
  have HS := Lib.hid hs
  have HL := Lib.hid hl
  have HM := Lib.hid hm
  have k300 : decide ((m : Int) > 300) = false := decide_eq_false (by omega)
  obtain ⟨i0, hi, hz0, hz1, hz2⟩ := bool_parts
  have hmk : ∀ w : World, (Instr.makeSlice 60 (.int .i64 (m : Int)) (.int .i64 (m : Int))).run Try.prog w = .ok (.slice (some ⟨w.heap.size, 0, none⟩) m m) (w.alloc (.cells (madeCells #[.bool false] m) 4)) := fun w => by
    have := run_make (P := Try.prog) w 60 4 i0 (.bool false) Try.underlying60 hi hz0 .i64 .i64 (m : Int) (m : Int) (by omega) (Int.le_refl _) (by rw [hz2]; omega) (by omega)
    rw [hz1] at this
    simpa [Value.cells] using this
  have hn := ho.1
  clear horder ho hs hl hm hi hz0 hz1 hz2
  rcases hn with rfl | rfl
  all_goals
    go_enter Try.func5, Try.ntmps5
    go_wp2_with fail
    refine HMd.out.mono ?_
    rintro e w1 ⟨g, gm, v, N, L, rfl, hq, hI, hN⟩
    have HQ := Lib.hid hq
    have HI := Lib.hid hI
    have HO1 := Lib.hid (HO.out w1)
    clear HMd hq hI
    go_wp2_with fail
    refine HO1.out.mono ?_
    rintro e w' ⟨rfl, rfl⟩
    go_wp2_with fail
    have hS0 := Seen.made w1 m
    have hgl : g < w1.heap.size := (Array.getElem?_eq_some_iff.1 HQ.out.at_.row).1
    have hml : gm < w1.heap.size := by obtain ⟨D, hD, -⟩ := HQ.out.at_.map; exact hD.lt
    have hvl : v.ownBlock ≠ some w1.heap.size := fun e => Nat.lt_irrefl _ (HQ.out.at_.own.lt _ e)
    have hwl := HQ.out.bel.size
    have HQ2 := Lib.hid (HQ.out.below (below_new w1 (.cells (madeCells #[.bool false] m) 4)))
    generalize (w1.alloc (.cells (madeCells #[.bool false] m) 4)) = w2 at hS0 HQ2 ⊢
    obtain ⟨gs, hgs⟩ : ∃ gs, w1.heap.size = gs := ⟨_, rfl⟩
    rw [hgs] at hS0 hgl hml hvl hwl ⊢
    have HS0 := Lib.hid hS0
    have HV0 := Lib.hid hvl
    clear HQ hS0 hgs hvl
    go_loopw [8, 9, 10] (fun la at_ i wr => ∃ (k : Nat) (v : Value) (N' : Nat) (L : List IT) (f : Nat → Bool) (a last : Int), k ≤ m ∧ la = .int .i64 last ∧ at_ = .int .i64 a ∧ i = .int .i64 k ∧ N' ≤ 1000000 + 2000 * k ∧ Hid (QB w wr g gm _ ((m : Int) + 1) v N' L) ∧ Hid (SortI ord zs m k f a last L) ∧ Hid (Seen wr gs m f) ∧ Hid (v.ownBlock ≠ some gs)) (fun _ _ i _ => m - (intOf i).toNat)
    case atStart => exact ⟨0, v, N, L, _, 0, 0, by omega, rfl, rfl, rfl, by omega, HQ2, Lib.hid (SortI.start HI.out), HS0, HV0⟩
    case round =>
      obtain ⟨k, v, N', L, f, a, last, hk, rfl, rfl, rfl, hN', hQ, hI, hSn, hV⟩ := hrel
      by_cases hlt : k < m
      · obtain ⟨r, hr⟩ : ∃ r, L.length = r + 1 := ⟨L.length - 1, by have := hI.out.len; omega⟩
        obtain ⟨j, va, h1, h2, hj, hz, hf, hle, hnx⟩ := hI.out.next HS.out hQ.out.at_.uniq hr
        obtain ⟨gl, cap, rfl⟩ := hQ.out.some_ hr
        have hrk : (r : Int) = (m : Int) - 1 - (k : Int) := by have := hI.out.len; omega
        have HP := Lib.hid (QPop_any _ ord HOrd.out g gm gl cap r N' _ L wr hQ.out.at_ hr (by have := hI.out.len; omega) (by have := hI.out.len; omega))
        rw [h2] at HP
        rw [h1] at HP
        obtain ⟨hjz, hzj⟩ := List.getElem?_eq_some_iff.1 hz
        have HNx := Lib.hid hnx
        have HLe := Lib.hid hle
        have HZj := Lib.hid hzj
        have HF := Lib.hid hf
        have hLm : r + 1 + k = m := by have := hI.out.len; omega
        clear hI h1 h2 hz hf hle hnx hr
        go_wp2_with fail
        refine HP.out.mono ?_
        rintro e w3 ⟨rfl, N3, hN3, hq3, hk3⟩
        have hQ3 := hQ.out.step hq3 hk3 (.inl rfl)
        have hSn3 := hSn.out.kept (hk3.block gs hSn.out.lt (by omega) (by omega) hV.out)
        obtain ⟨ad, rfl, hlb, c0⟩ := (HL.out.below hQ3.bel).at_ hjz
        rw [HZj.out] at c0
        obtain ⟨s0, z0⟩ := hSn3.cell hj
        rw [HF.out] at s0
        have HLn := Lib.hid (QLen_any _ g gm N3 r cap _ _ _ w3 hQ3.at_)
        have p1 : ¬ ((j : Int) + 1 < 1) := by omega
        have p2 : ¬ ((m : Int) < (j : Int) + 1) := by omega
        have p3 : (j : Int) < (m : Int) := by omega
        have p4 : (0 : Int) ≤ (j : Int) := by omega
        have HQ3 := Lib.hid hQ3
        have HS3 := Lib.hid hSn3
        clear HP hQ hSn hq3 hk3 hQ3 hSn3
        have HW4 := Lib.hid (HQ3.out.mark gs j (.bool true) (by omega) (by omega) (fun e => hV.out e) hwl)
        have HS4 := Lib.hid (HS3.out.mark j hj)
        have HV4 : Hid ((Value.slice (some ⟨gl, 0, none⟩) r cap).ownBlock ≠ some gs) := Lib.hid (fun e => hV.out e)
        clear HQ3 HS3 hV
        by_cases hk0 : 0 < k
        · obtain ⟨e1, e2⟩ := le_says HS.out (HLe.out hk0)
          have HA := Lib.hid (HOrd.out.2 va last (w3.setCell ⟨gs, j, none⟩ (.bool true)))
          have HB := Lib.hid (HOrd.out.2 last va (w3.setCell ⟨gs, j, none⟩ (.bool true)))
          rw [e1] at HA
          have k1 : (0 : Int) < (k : Int) := by omega
          have HE2 := Lib.hid e2
          clear e1 e2
          cases hbb : ord last va with
          | true =>
            rw [hbb] at HB
            clear hbb HE2
            go_wp2_with fail
            refine HLn.out.mono ?_
            rintro e w' ⟨rfl, rfl⟩
            go_wp2_with fail
            refine HA.out.mono ?_
            rintro e w' ⟨rfl, rfl⟩
            go_wp2_with fail
            refine HB.out.mono ?_
            rintro e w' ⟨rfl, rfl⟩
            go_wp2_with fail
            go_roundw
            case rel => exact ⟨k + 1, _, N3, _, _, (j : Int) + 1, va, by omega, rfl, rfl, by go_num, by omega, HW4, HNx, HS4, HV4⟩
            case measure => simp [intOf]; omega
          | false =>
            have e3 := HE2.out hbb
            rw [hbb] at HB
            clear hbb HE2
            go_wp2_with fail
            refine HLn.out.mono ?_
            rintro e w' ⟨rfl, rfl⟩
            go_wp2_with fail
            refine HA.out.mono ?_
            rintro e w' ⟨rfl, rfl⟩
            go_wp2_with fail
            refine HB.out.mono ?_
            rintro e w' ⟨rfl, rfl⟩
            go_wp2_with fail
            go_roundw
            case rel => exact ⟨k + 1, _, N3, _, _, (j : Int) + 1, va, by omega, rfl, rfl, by go_num, by omega, HW4, HNx, HS4, HV4⟩
            case measure => simp [intOf]; omega
        · obtain rfl : k = 0 := by omega
          go_wp2_with fail
          refine HLn.out.mono ?_
          rintro e w' ⟨rfl, rfl⟩
          go_wp2_with fail
          go_roundw
          case rel => exact ⟨1, _, N3, _, _, (j : Int) + 1, va, by omega, rfl, rfl, by go_num, by omega, HW4, HNx, HS4, HV4⟩
          case measure => simp [intOf]; omega
      · obtain rfl : k = m := by omega
        obtain rfl : L = [] := List.length_eq_zero_iff.1 (by have := hI.out.len; omega)
        have HP := Lib.hid (QPop_none _ g gm N' _ v wr hQ.out.at_)
        have HA := Lib.hid (awake_any wr)
        have HB := Lib.hid hQ.out.bel
        clear hQ hI hSn hV
        go_wp2_with fail
        refine HP.out.mono ?_
        rintro e w' ⟨rfl, rfl⟩
        go_wp2_with fail
        refine HA.out.mono ?_
        rintro e w5 ⟨rfl, hb⟩
        go_wp2_with fail
        go_ret
        exact ⟨rfl, bt HB.out HB.out.size hb⟩
theorem HeapsSorts_walk (b : Nat) (hb : b < 256) (A : Option Addr) (c m : Nat) (zs : List Int) (w : World) (hl : NumIn w w.heap.size A c zs) (hm : zs.length = m) :
    Calls Try.prog 5 #[.int .u8 (b : Int), .slice A m c] w fun e w' => e = .returned (.bool true) ∧ Below w.heap.size w w' := by
  by_cases h300 : m ≤ 300
  · obtain ⟨n, ord, ho, hs, horder⟩ := order_any b hb
    exact sorts_main b n ord ho hs horder A c m zs w hl hm h300
  · have HA := Lib.hid (awake_any w)
    have k1 : (300 : Int) < (m : Int) := by omega
    clear hl hm
    go_enter Try.func5, Try.ntmps5
    go_wp2_with fail
    refine HA.out.mono ?_
    rintro e w' ⟨rfl, hb⟩
    go_wp2_with fail
    go_ret
    exact ⟨rfl, hb⟩
end Go.Proofs.Ytdkfaepmgennjaa
