/- Contracts of package sha's hashes: begin, New, isMade. -/
import Derived.Test.YtgpgnfdbjljljaaDoorShaPad
import Derived.LaidEqlPtr
namespace Go.Proofs.YtgpgnfdbjljljaaDoor
open Go.RowKit
namespace S
/-- The cells of a hash. -/
def hcells (p : Addr) (s : St) (last : List UInt8) (n : Nat) : List Value := .pointer (some p) :: ((vals s).toList ++ (last.map byteV ++ [.int .i64 n]))
theorem hcells_len {p : Addr} {s : St} {last : List UInt8} {n : Nat} (h : last.length = 64) : (hcells p s last n).length = 74 := by
  simp [hcells, vals, h]
/-- At this block lie the cells of a hash to which these bytes were written; what it takes for itself lies at p. -/
structure HashP (w : World) (B : Nat) (p : Addr) (l : List UInt8) : Prop where
  mk' :: row : ∃ last, last.length = 64 ∧ last.take (l.length % 64) = l.drop (64 * (l.length / 64)) ∧ Row w B 86 (hcells p (after l (l.length / 64)) last l.length)
/-- At this block lies a hash to which these bytes were written. -/
abbrev HashAt (w : World) (B : Nat) (l : List UInt8) : Prop := HashP w B ⟨B, 0, none⟩ l
theorem HashP.lt {w : World} {B : Nat} {p : Addr} {l : List UInt8} (h : HashP w B p l) : B < w.heap.size := by
  obtain ⟨_, _, _, h⟩ := h.row
  exact h.lt
theorem HashP.below {w w' : World} {B C : Nat} {p : Addr} {l : List UInt8} (h : HashP w B p l) (hb : Below C w w') (hC : B < C) : HashP w' B p l := by
  obtain ⟨last, h1, h2, h3⟩ := h.row
  exact ⟨last, h1, h2, h3.below hb hC⟩
theorem info_hash : (Tryd.prog.info? 86).map (·.size) = some 74 := by kernel_rfl
def zero64 : List UInt8 := List.replicate 64 0
theorem begin_built (B : Nat) : Tryd.prog.built 86 [(0, .pointer (some ⟨B, 0, none⟩)), (1, .agg (vals start))] = some (hcells ⟨B, 0, none⟩ start zero64 0).toArray := by kernel_rfl
theorem wpList_build_two {P : Program} {ops : Array Oper} {rest : List Oper} {o : Oper} {a : Act} {w : World} {Q : Exit → Act → World → Prop} (hg : o.guard = none) (t : TypeId) (i j : Nat) (x y : Operand) (ho : o.op = .build t #[(i, x), (j, y)]) (u v : Value) (hx : a.eval x = u) (hy : a.eval y = v) (cells : Array Value)
    (hf : P.built t [(i, u), (j, v)] = some cells)
    (h : wpList P ops Q rest (a.put o.dst (.agg cells)) w) : wpList P ops Q (o :: rest) a w := by
  have e : ((#[(i, x), (j, y)] : Array (Nat × Operand)).map fun (i, x) => (i, a.eval x)).toList = [(i, u), (j, v)] := by simp [hx, hy]
  exact wpList_build hg t #[(i, x), (j, y)] ho (by rw [e, hf]; rfl) (by rw [e, hf]; exact h)
/-- All blocks but one are as they were. -/
structure But (B : Nat) (w w' : World) : Prop where
  os : w'.os = w.os
  tape : w'.tape = w.tape
  output : w'.output = w.output
  size : w.heap.size ≤ w'.heap.size
  block : ∀ k, k < w.heap.size → k ≠ B → w'.heap[k]? = w.heap[k]?
theorem But.refl (B : Nat) (w : World) : But B w w := ⟨rfl, rfl, rfl, Nat.le_refl _, fun _ _ _ => rfl⟩
theorem But.trans {B : Nat} {u v w : World} (h : But B u v) (k : But B v w) : But B u w :=
  ⟨k.os.trans h.os, k.tape.trans h.tape, k.output.trans h.output, Nat.le_trans h.size k.size, fun i hi hB => (k.block i (Nat.lt_of_lt_of_le hi h.size) hB).trans (h.block i hi hB)⟩
theorem But.of_below {B : Nat} {w w' : World} (h : Below w.heap.size w w') : But B w w' := ⟨h.os, h.tape, h.output, h.size, fun k hk _ => h.block k hk⟩
theorem But.setRow {B : Nat} {u w : World} (h : But B u w) (cs : Array Value) : But B u (w.setRow B cs) :=
  h.trans ⟨rfl, rfl, rfl, by simp, fun k _ hB => setRow_other w B k cs hB⟩
theorem But.setCell {B : Nat} {u w : World} (h : But B u w) (o : Nat) (s : Option Nat) (v : Value) : But B u (w.setCell ⟨B, o, s⟩ v) :=
  h.trans ⟨rfl, rfl, rfl, by simp, fun k _ hB => heap_setCell_other w _ k v hB⟩
theorem But.drew {B : Nat} {u w : World} (h : But B u w) : But B u w.drew := h.trans ⟨rfl, rfl, rfl, Nat.le_refl _, fun _ _ _ => rfl⟩
theorem But.drewN {B : Nat} {u w : World} (h : But B u w) (n : Nat) : But B u (w.drewN n) := h.trans ⟨rfl, rfl, rfl, Nat.le_refl _, fun _ _ _ => rfl⟩
theorem But.alloc {B : Nat} {u w : World} (h : But B u w) (o : Obj) : But B u (w.alloc o) := h.trans ⟨rfl, rfl, rfl, by simp, fun k hk _ => Below.heap_alloc w o k hk⟩
theorem But.below {B C : Nat} {w w' : World} (h : But B w w') (hB : C ≤ B) (hC : C ≤ w.heap.size) : Below C w w' := ⟨h.os, h.tape, h.output, h.size, fun k hk => h.block k (by omega) (by omega)⟩
theorem But.row {B g : Nat} {w w' : World} {t : TypeId} {cs : List Value} (h : But B w w') (hr : Row w g t cs) (hg : g ≠ B) : Row w' g t cs := (h.block g hr.lt hg).trans hr
theorem But.hash {B g : Nat} {w w' : World} {p : Addr} {l : List UInt8} (h : But B w w') (hr : HashP w g p l) (hg : g ≠ B) : HashP w' g p l := by
  obtain ⟨last, h1, h2, h3⟩ := hr.row
  exact ⟨last, h1, h2, h.row h3 hg⟩
theorem But.laid {B : Nat} {w w' : World} (h : But B w w') (hK : SLaid w) (hB : 2 ≤ B) : SLaid w' := by
  have hl := hK.lt
  exact hK.below (h.below (C := 2) (by omega) (by omega)) (Nat.le_refl _)
theorem after_nil : after [] 0 = start := rfl
theorem hash_nil {w : World} {B : Nat} (h : Row w B 86 (hcells ⟨B, 0, none⟩ start zero64 0)) : HashAt w B [] := ⟨zero64, rfl, rfl, h⟩
theorem hcells_one (p : Addr) (s : St) (last : List UInt8) (n : Nat) : (hcells p s last n).toArray.all (·.oneCell') = true := by
  simp [hcells, vals, Value.oneCell', byteV]
end S
set_option maxRecDepth 100000 in
set_option maxHeartbeats 400000 in
theorem begin_any (B : Nat) (cs : List Value) (hcs : cs.length = 74) (w : World) (hK : S.SLaid w) (hr : S.Row w B 86 cs) :
    Calls Tryd.prog 49 #[.pointer (some ⟨B, 0, none⟩)] w fun e w' => e = .returned (.tuple #[]) ∧ S.HashAt w' B [] ∧ S.But B w w' := by
  have hlt := hK.lt
  obtain ⟨_, ⟨t, fr, hk⟩⟩ := hK
  obtain ⟨KL, HKL⟩ : ∃ KL, KL = S.vals S.start := ⟨_, rfl⟩
  have HKs := Lib.hid (show KL.size = 8 by rw [HKL]; rfl)
  have HK1 := Lib.hid (show KL.all (·.oneCell') = true by rw [HKL]; exact S.vals_one _)
  have hbuild := S.begin_built B
  obtain ⟨C, HC⟩ : ∃ C, C = (S.hcells ⟨B, 0, none⟩ S.start S.zero64 0).toArray := ⟨_, rfl⟩
  have HCs := Lib.hid (show C.size = 74 by rw [HC]; rfl)
  have HC1 := Lib.hid (show C.all (·.oneCell') = true by rw [HC]; exact S.hcells_one _ _ _ _)
  have HCl := Lib.hid (show C.toList = S.hcells ⟨B, 0, none⟩ S.start S.zero64 0 by rw [HC])
  have HR := Lib.hid hcs
  rw [← HKL] at hk hbuild
  rw [← HC] at hbuild
  clear HKL HC hcs
  go_enter Tryd.func49, Tryd.ntmps49
  go_wp2_with (first
    | (refine wpList_load_row rfl 56 (.global 1) rfl 1 rfl t KL fr _ hk Tryd.underlying56 rfl (by rw [HKs.out]; exact S.info_eight) ?_)
    | (refine S.wpList_build_two rfl 86 _ _ (.tmp 3) (.tmp 4) rfl _ _ rfl rfl C hbuild ?_)
    | (refine wpList_store_row rfl 86 (.tmp 6) (.tmp 5) rfl B C rfl rfl _ _ hr (by rw [HCs.out]; exact S.info_hash) (by rw [HCs.out]; simpa using HR.out) HC1.out ?_))
  go_end0
  exact ⟨rfl, S.hash_nil (HCl.out ▸ setRow_heap w B _ C _ _ hr), (S.But.refl B w).setRow C⟩
theorem S.zero_hash : (Tryd.prog.info? 86).map (fun i => (i.zero, i.size)) = some (some (.agg (.pointer none :: ((List.replicate 8 (S.wordV 0)) ++ ((List.replicate 64 (S.byteV 0)) ++ [.int .i64 0]))).toArray), 74) := by kernel_rfl
set_option maxRecDepth 100000 in
set_option maxHeartbeats 400000 in
theorem New_any (w : World) (hK : S.SLaid w) :
    Calls Tryd.prog 19 #[] w fun e w' => ∃ B, e = .returned (.pointer (some ⟨B, 0, none⟩)) ∧ S.HashAt w' B [] ∧ Below w.heap.size w w' ∧ w.heap.size ≤ B := by
  have hlt := hK.lt
  have HK := Lib.hid hK
  clear hK
  go_enter Tryd.func19, Tryd.ntmps19
  go_wp2_with fail
  have hr : S.Row (w.alloc (.cells Tryd.zeroCells86 86)) w.heap.size 86 Tryd.zeroCells86.toList := S.Row.made w _ _ rfl rfl
  have hb : Below w.heap.size w (w.alloc (.cells Tryd.zeroCells86 86)) := (Below.refl _ _).alloc (Nat.le_refl _) _
  refine (begin_any w.heap.size _ (by kernel_rfl) _ (HK.out.below hb (by omega)) hr).mono ?_
  rintro e w1 ⟨rfl, h1, h2⟩
  have HB := Lib.hid (hb.trans (h2.below (Nat.le_refl _) (by simp)))
  clear hr hb h2
  go_wp2_with fail
  go_ret
  exact ⟨w.heap.size, rfl, h1, HB.out, Nat.le_refl _⟩
theorem S.self_at {w : World} {B : Nat} {l : List UInt8} (h : S.HashAt w B l) : w.cell? ⟨B, 0, none⟩ = some (.pointer (some ⟨B, 0, none⟩)) := by
  obtain ⟨last, _, _, h⟩ := h.row
  exact h.cell rfl
set_option maxHeartbeats 400000 in
theorem isMade_yes (B : Nat) (l : List UInt8) (w : World) (h : S.HashAt w B l) :
    Calls Tryd.prog 50 #[.pointer (some ⟨B, 0, none⟩)] w fun e w' => e = .returned (.bool true) ∧ w = w' := by
  have hc := S.self_at h
  have he : ∃ j, Tryd.prog.info? 86 = some j := by
    cases hq : Tryd.prog.info? 86 with
    | none => have := S.info_hash; rw [hq] at this; cases this
    | some j => exact ⟨j, rfl⟩
  obtain ⟨j, hj⟩ := he
  have heq := run_eql_ptr_same (w := w) ⟨B, 0, none⟩ Tryd.underlying30 hj
  clear h
  go_enter Tryd.func50, Tryd.ntmps50
  go_wp2_with fail
  go_ret
  exact ⟨rfl, rfl⟩
set_option maxHeartbeats 400000 in
theorem isMade_nil (w : World) :
    Calls Tryd.prog 50 #[.pointer none] w fun e w' => e = .returned (.bool false) ∧ w = w' := by
  go_enter Tryd.func50, Tryd.ntmps50
  go_wp2_with fail
  go_ret
  exact ⟨rfl, rfl⟩
set_option maxHeartbeats 400000 in
theorem isMade_no (B : Nat) (w : World) (h : w.cell? ⟨B, 0, none⟩ = some (.pointer none)) :
    Calls Tryd.prog 50 #[.pointer (some ⟨B, 0, none⟩)] w fun e w' => e = .returned (.bool false) ∧ w = w' := by
  have heq : (binOp .eql 30 (.pointer none) (.pointer (some ⟨B, 0, none⟩))).run Tryd.prog w = .ok (.bool false) w := by
    have h9 : ∀ d : Nat, (Op.equalIn (d + 1) 30 (.pointer none) (.pointer (some ⟨B, 0, none⟩))).run Tryd.prog w = .ok false w := fun d => by
      simp [Op.equalIn, run_underlying Tryd.underlying30]
    simp only [binOp]
    simp [Op.equal, Op.maxDepth, h9 9999]
  go_enter Tryd.func50, Tryd.ntmps50
  go_wp2_with fail
  go_ret
  exact ⟨rfl, rfl⟩
end Go.Proofs.YtgpgnfdbjljljaaDoor
