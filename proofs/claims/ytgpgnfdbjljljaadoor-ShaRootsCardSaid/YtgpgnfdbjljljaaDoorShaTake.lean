/- The contract of package sha's take. -/
import Derived.Test.YtgpgnfdbjljljaaDoorShaPart
import Derived.Deep.RegionHeld3
namespace Go.Proofs.YtgpgnfdbjljljaaDoor
open Go.RowKit
namespace S
theorem after_append (l m : List UInt8) : ∀ n, 64 * n ≤ l.length → after (l ++ m) n = after l n
  | 0, _ => rfl
  | n + 1, h => by
    rw [after, after, after_append l m n (by omega), List.drop_append_of_le_length (by omega), List.take_append_of_le_length (by rw [List.length_drop]; omega)]
/-- The last bytes, when more of them are written. -/
theorem last_more {l d last : List UInt8} (h64 : last.length = 64) (hl : last.take (l.length % 64) = l.drop (64 * (l.length / 64))) (_hd : d.length ≤ 64 - l.length % 64) :
    (splice last (l.length % 64) d).take (l.length % 64 + d.length) = (l ++ d).drop (64 * (l.length / 64)) := by
  unfold splice
  rw [List.drop_append_of_le_length (by omega), ← hl, ← List.append_assoc, List.take_append_of_le_length (by simp; omega), List.take_of_length_le (by simp; omega)]
theorem last_len {l d last : List UInt8} (h64 : last.length = 64) (hd : d.length ≤ 64 - l.length % 64) : (splice last (l.length % 64) d).length = 64 := by
  rw [length_splice _ _ _ (by omega), h64]
/-- A block is whole. -/
theorem last_whole {l d last : List UInt8} (h64 : last.length = 64) (hl : last.take (l.length % 64) = l.drop (64 * (l.length / 64))) (hd : d.length ≤ 64 - l.length % 64) (h0 : (l.length + d.length) % 64 = 0) (hp : 0 < d.length) :
    after (l ++ d) ((l ++ d).length / 64) = block (after l (l.length / 64)) (splice last (l.length % 64) d) ∧ (l.length + d.length) / 64 = l.length / 64 + 1 := by
  have hq : (l.length + d.length) / 64 = l.length / 64 + 1 := by omega
  have hm := last_more h64 hl hd
  have hs := last_len h64 hd
  refine ⟨?_, hq⟩
  rw [List.length_append, hq, after, after_append l d _ (by omega)]
  congr 1
  rw [← hm, List.take_take, List.take_of_length_le (by rw [hs]; omega)]
theorem last_part {l d : List UInt8} (hd : d.length < 64 - l.length % 64) : after (l ++ d) ((l ++ d).length / 64) = after l (l.length / 64) ∧ (l.length + d.length) / 64 = l.length / 64 ∧ (l.length + d.length) % 64 = l.length % 64 + d.length := by
  have hq : (l.length + d.length) / 64 = l.length / 64 := by omega
  refine ⟨?_, hq, by omega⟩
  rw [List.length_append, hq, after_append l d _ (by omega)]
theorem splice_map {α β : Type} (f : α → β) (L : List α) (o : Nat) (c : List α) : (splice L o c).map f = splice (L.map f) o (c.map f) := by
  unfold splice; simp
/-- What a copy into the last bytes makes of a hash's cells. -/
theorem hcells_copy {p : Addr} {s : St} {last : List UInt8} {n o : Nat} (h64 : last.length = 64) (d : List UInt8) (ho : o + d.length ≤ 64) :
    splice (hcells p s last n) (9 + o) (d.map byteV) = hcells p s (splice last o d) n := by
  unfold hcells
  rw [splice_map]
  unfold splice
  have hv : (vals s).toList.length = 8 := rfl
  rw [show 9 + o = (8 + o) + 1 by omega, List.take_succ_cons, show 8 + o + 1 + (d.map byteV).length = (8 + (o + (d.map byteV).length)) + 1 by omega, List.drop_succ_cons]
  rw [List.take_append, List.drop_append, hv, List.take_of_length_le (by rw [hv]; omega), List.drop_eq_nil_of_le (by rw [hv]; omega), List.nil_append]
  rw [show 8 + o - 8 = o by omega, show 8 + (o + (d.map byteV).length) - 8 = o + (d.map byteV).length by omega]
  rw [List.take_append_of_le_length (by simp; omega), List.drop_append_of_le_length (by simp; omega)]
  simp
theorem hcells_state {p : Addr} {s t : St} {last : List UInt8} {n : Nat} : splice (hcells p s last n) 1 (vals t).toList = hcells p t last n := rfl
theorem hcells_count {p : Addr} {s : St} {last : List UInt8} {n m : Nat} (h64 : last.length = 64) : (hcells p s last n).set 73 (.int .i64 m) = hcells p s last m := by
  unfold hcells
  rw [show 73 = 72 + 1 by omega, List.set_cons_succ, List.set_append_right _ _ (by show 8 ≤ 72; omega), List.set_append_right _ _ (by simp [vals, h64])]
  simp [vals, h64]
theorem hcells_len_at {p : Addr} {s : St} {last : List UInt8} {n : Nat} (h64 : last.length = 64) : (hcells p s last n)[73]? = some (.int .i64 n) := by
  unfold hcells
  rw [show 73 = 72 + 1 by omega, List.getElem?_cons_succ, List.getElem?_append_right (by show 8 ≤ 72; omega), List.getElem?_append_right (by simp [vals, h64])]
  simp [vals, h64]
theorem hcells_last_at {p : Addr} {s : St} {last : List UInt8} {n j : Nat} {v : Value} (h : (last.map byteV)[j]? = some v) : (hcells p s last n)[9 + j]? = some v := by
  unfold hcells
  have hj : j < (last.map byteV).length := (List.getElem?_eq_some_iff.1 h).1
  rw [show 9 + j = (8 + j) + 1 by omega, List.getElem?_cons_succ, List.getElem?_append_right (by show 8 ≤ 8 + j; omega), show 8 + j - (vals s).toList.length = j from by show 8 + j - 8 = j; omega, List.getElem?_append_left hj]
  exact h
theorem hcells_state_at {p : Addr} {s : St} {last : List UInt8} {n j : Nat} {v : Value} (h : (vals s).toList[j]? = some v) : (hcells p s last n)[1 + j]? = some v := by
  unfold hcells
  have hj : j < (vals s).toList.length := (List.getElem?_eq_some_iff.1 h).1
  rw [show 1 + j = j + 1 by omega, List.getElem?_cons_succ, List.getElem?_append_left hj]
  exact h
theorem info_blk : (Tryd.prog.info? 60).map (·.size) = some 64 := by kernel_rfl
end S
theorem S.step_load_part {P : Program} {ops : Array Oper} {o : Oper} {a : Act} {w : World} {K : Act → World → Prop} {Q : Exit → Act → World → Prop} {E : Prop} (hgd : o.guard = none) (ty : TypeId) (x : Operand) (ho : o.op = .load ty x) (g off : Nat) (hx : a.eval x = .pointer (some ⟨g, off, none⟩)) (cs : Array Value) (d : TypeDesc) (hc : ∀ j v, cs.toList[j]? = some v → w.cell? ⟨g, off + j, none⟩ = some v)
    (hu : P.underlying ty = some d) (hd : (match d with | .struct _ | .array _ _ => true | _ => false) = true) (hi : (P.info? ty).map (·.size) = some cs.size)
    (h : K (a.put o.dst (.agg cs)) w) : if Region.wanted o (yielded ops a.tmps) = true then Oper.wp P o a w K Q else E := by
  have hw : Region.wanted o (yielded ops a.tmps) = true := by simp [Region.wanted, hgd]
  rw [if_pos hw]
  unfold Oper.wp
  rw [S.run_load_part w a o ty x ho g off hx cs d hc hu hd hi]
  exact h
theorem S.step_store_part {P : Program} {ops : Array Oper} {o : Oper} {a : Act} {w : World} {K : Act → World → Prop} {Q : Exit → Act → World → Prop} {E : Prop} (hgd : o.guard = none) (ty : TypeId) (x y : Operand) (ho : o.op = .store ty x y)
    (g off : Nat) (cells : Array Value) (hx : a.eval x = .pointer (some ⟨g, off, none⟩)) (hy : a.eval y = .agg cells)
    (t : TypeId) (old : List Value) (hg : S.Row w g t old) (hi : (P.info? ty).map (·.size) = some cells.size)
    (hold : off + cells.size ≤ old.length) (h1 : cells.all (·.oneCell') = true)
    (h : ∀ w', S.Row w' g t (splice old off cells.toList) → S.But g w w' → K (a.put o.dst undef) w') : if Region.wanted o (yielded ops a.tmps) = true then Oper.wp P o a w K Q else E := by
  have hw : Region.wanted o (yielded ops a.tmps) = true := by simp [Region.wanted, hgd]
  rw [if_pos hw]
  unfold Oper.wp execOp
  simp only [ho, hx, hy, Instr.storeAt, Instr.sureAddr, Sem.run_bind, Sem.run_pure, Result.andThen_ok, S.run_storeVar_part w g off t ty old.toArray cells hg hi (by simpa using hold) h1]
  exact h _ (setRow_heap w g _ _ t _ hg) ((S.But.refl g w).setRow _)
theorem S.after_ok (l : List UInt8) : ∀ n, (S.after l n).ok
  | 0 => (show S.start.ok from ⟨⟨by decide, by decide, by decide, by decide⟩, by decide, by decide, by decide, by decide⟩)
  | n + 1 => S.block_ok _ _
theorem S.hash_part {w : World} {B : Nat} {p : Addr} {m x last : List UInt8} (h64 : last.length = 64) (hl : last.take (m.length % 64) = m.drop (64 * (m.length / 64))) (hx : x.length < 64 - m.length % 64)
    (hrow : S.Row w B 86 (S.hcells p (S.after m (m.length / 64)) (splice last (m.length % 64) x) (m.length + x.length))) : S.HashP w B p (m ++ x) := by
  obtain ⟨h1, h2, h3⟩ := S.last_part hx
  have hm := S.last_more h64 hl (Nat.le_of_lt hx)
  refine ⟨splice last (m.length % 64) x, S.last_len h64 (Nat.le_of_lt hx), ?_, ?_⟩
  · rw [List.length_append, h3, h2]; exact hm
  · rw [h1, List.length_append]; exact hrow
theorem S.hash_whole {w : World} {B : Nat} {p : Addr} {m x last : List UInt8} (h64 : last.length = 64) (hl : last.take (m.length % 64) = m.drop (64 * (m.length / 64))) (hx : x.length ≤ 64 - m.length % 64) (h0 : (m.length + x.length) % 64 = 0) (hp : 0 < x.length)
    (hrow : S.Row w B 86 (S.hcells p (S.block (S.after m (m.length / 64)) (splice last (m.length % 64) x)) (splice last (m.length % 64) x) (m.length + x.length))) : S.HashP w B p (m ++ x) := by
  obtain ⟨h1, h2⟩ := S.last_whole h64 hl hx h0 hp
  refine ⟨splice last (m.length % 64) x, S.last_len h64 hx, ?_, ?_⟩
  · rw [List.length_append, h0, List.take_zero, List.drop_eq_nil_of_le (by rw [List.length_append]; omega)]
  · rw [h1, List.length_append]; exact hrow
theorem S.last_len' {last r : List UInt8} {k t : Nat} (h64 : last.length = 64) (ht : t ≤ 64 - k) (hr : t ≤ r.length) (hk : k < 64 := by assumption) : (splice last k (r.take t)).length = 64 := by
  rw [length_splice _ _ _ (by rw [List.length_take]; omega), h64]
theorem S.take_src {w : World} {C c t : Nat} {ad : Addr} {r : List UInt8} (h : BytesIn w C (some ad) c r) {j : Nat} {v : Value} (hj : ((r.take t).map S.byteV)[j]? = some v) : w.cell? (ad.add j) = some v := by
  obtain ⟨x, hx, rfl⟩ : ∃ x, (r.take t)[j]? = some x ∧ S.byteV x = v := by rw [List.getElem?_map, Option.map_eq_some_iff] at hj; exact hj
  have hx' : r[j]? = some x := by
    rw [List.getElem?_take] at hx
    split at hx
    · exact hx
    · cases hx
  exact (h.cells ad rfl j x hx').2
theorem S.bytes_one (l : List UInt8) : ∀ v ∈ l.map S.byteV, v.oneCell' = true := by
  intro v hv; obtain ⟨x, _, rfl⟩ := List.mem_map.1 hv; rfl
theorem S.wpList_copy_but {P : Program} {w : World} {ops : Array Oper} {rest : List Oper} {o : Oper} {a : Act} {Q : Exit → Act → World → Prop} (hgd : o.guard = none) (d s : Operand) (dT sT : TypeId)
    (ho : o.op = .call { callee := .builtin .copy, args := #[d, s], argTypes := #[dT, sT] }) (elem : TypeId) (hu : P.underlying dT = some (.slice elem)) (hsz : (P.info? elem).map (·.size) = some 1)
    (g off dLen dCap : Nat) (ad : Addr) (sLen sCap : Nat) (hd : a.eval d = .slice (some ⟨g, off, none⟩) dLen dCap) (hs : a.eval s = .slice (some ad) sLen sCap)
    (cur : List Value) (t : TypeId) (hg : S.Row w g t cur) (cs : List Value) (hn : cs.length = Nat.min sLen dLen)
    (hsrc : ∀ j v, cs[j]? = some v → w.cell? (ad.add j) = some v) (hfit : off + cs.length ≤ cur.length) (h1 : ∀ v ∈ cs, v.oneCell' = true)
    (h : ∀ w', S.Row w' g t (splice cur off cs) → S.But g w w' → wpList P ops Q rest (a.put o.dst (goInt cs.length)) w') : wpList P ops Q (o :: rest) a w := by
  refine wpList_copy_own hgd d s dT sT ho elem hu hsz g off dLen dCap ad sLen sCap hd hs cur.toArray t hg cs hn hsrc (by simpa using hfit) h1 ?_
  exact h _ (by have := setRow_heap w g _ (splice cur off cs).toArray t _ hg; simpa [splice, S.Row] using this) ((S.But.refl g w).setRow _)
theorem S.run_slice_part {P : Program} (w : World) (t e : TypeId) (g o n k : Nat) (z : Int) (hu : P.underlying t = some (.array n e)) (hs : (P.info? e).map (·.size) = some 1) (hz : z = (k : Int)) (hk : k < n) :
    (Instr.sliceAt t (.pointer (some ⟨g, o, none⟩)) (some (.int .i64 z)) none none).run P w = .ok (.slice (some ⟨g, o + k, none⟩) (n - k) (n - k)) w := by
  subst hz
  cases hq : P.info? e with
  | none => simp [hq] at hs
  | some i =>
    have hi : i.size = 1 := by simpa [hq] using hs
    have hadd := S.addr_at g o k
    have h1 : ¬ n < k := by omega
    have h2 : k ≤ n := by omega
    simp [Instr.sliceAt, Instr.sureAddr, run_underlying hu, Instr.sliceBounds, Instr.sliceBound, asIntOf, sizeOf, typeInfo, hq, hi, hadd, h2, show ¬ n = k by omega]
theorem BytesIn.but {w w' : World} {B C : Nat} {A : Option Addr} {c : Nat} {l : List UInt8} (h : BytesIn w C A c l) (hC : C ≤ w.heap.size) (hb : S.But B w w') (hne : ∀ ad, A = some ad → ad.block ≠ B) : BytesIn w' C A c l :=
  ⟨h.le, h.cap, h.none_, fun ad e j u hu => by
    obtain ⟨h1, h2⟩ := h.cells ad e j u hu
    refine ⟨h1, ?_⟩
    rw [World.cell?_of_block (w := w) (hb.block _ (by rw [add_block]; omega) (by rw [add_block]; exact hne ad e))]
    exact h2⟩
theorem cut_block {A : Option Addr} {B k : Nat} {p : Prop} [Decidable p] (h : ∀ ad, A = some ad → ad.block ≠ B) : ∀ ad, (if p then A else A.map (·.add k)) = some ad → ad.block ≠ B := by
  intro ad e
  split at e
  · exact h ad e
  · cases A with
    | none => cases e
    | some a =>
      have e' : a.add k = ad := by simpa using e
      subst e'
      rw [add_block]
      exact h a rfl
set_option linter.unusedSimpArgs false in
set_option maxRecDepth 100000 in
set_option maxHeartbeats 2000000 in
theorem take_any (B : Nat) (p : Addr) (l : List UInt8) (A : Option Addr) (c : Nat) (b : List UInt8) (w : World) (hK : S.SLaid w) (hB : 2 ≤ B) (hh : S.HashP w B p l) (hin : BytesIn w w.heap.size A c b) (hne : 0 < b.length → ∀ ad, A = some ad → ad.block ≠ B) (hlen : l.length + b.length ≤ 1000000000) :
    Calls Tryd.prog 51 #[.pointer (some ⟨B, 0, none⟩), .slice A b.length c] w fun e w' => e = .returned (.tuple #[]) ∧ S.HashP w' B p (l ++ b) ∧ S.But B w w' := by
  have HK := Lib.hid hK
  clear hK
  go_enter Tryd.func51, Tryd.ntmps51
  go_wp2_with fail
  go_loopw [1] (fun v wr => ∃ (d r : List UInt8) (A' : Option Addr) (c' : Nat), d ++ r = b ∧ v = .slice A' r.length c' ∧ BytesIn wr wr.heap.size A' c' r ∧ (0 < r.length → ∀ ad, A' = some ad → ad.block ≠ B) ∧ S.HashP wr B p (l ++ d) ∧ S.But B w wr) (fun v _ => match v with | .slice _ n _ => n | _ => 0)
  case atStart => exact ⟨[], b, A, c, rfl, rfl, hin, hne, by rw [List.append_nil]; exact hh, S.But.refl _ _⟩
  case round =>
    obtain ⟨d, r, A', c', hb, rfl, hin', hne', hh', hbut⟩ := hrel
    have hbl : d.length + r.length = b.length := by rw [← hb, List.length_append]
    clear hin hne hh
    by_cases h0 : 0 < r.length
    · have hne' := hne' h0
      obtain ⟨last, h64, hlast, hrow⟩ := hh'.row
      have hL : (l ++ d).length ≤ 1000000000 := by rw [List.length_append]; omega
      obtain ⟨m, HM⟩ : ∃ m, Hid (m = l ++ d) := ⟨_, Lib.hid rfl⟩
      rw [← HM.out] at hlast hrow hL
      clear hh'
      obtain ⟨N, HN⟩ : ∃ N, Hid (N = m.length) := ⟨_, Lib.hid rfl⟩
      obtain ⟨k, HKk⟩ : ∃ k, Hid (k = m.length % 64) := ⟨_, Lib.hid rfl⟩
      obtain ⟨st, HST⟩ : ∃ st, Hid (st = S.after m (m.length / 64)) := ⟨_, Lib.hid rfl⟩
      rw [← HST.out, ← HN.out] at hrow
      have hk64 : k < 64 := by rw [HKk.out]; exact Nat.mod_lt _ (by decide)
      have hNk : N % 64 = k := by rw [HN.out, HKk.out]
      obtain ⟨t, HT⟩ : ∃ t, Hid (t = Nat.min r.length (64 - k)) := ⟨_, Lib.hid rfl⟩
      have ht1 : t ≤ r.length := by rw [HT.out]; exact Nat.min_le_left _ _
      have ht2 : t ≤ 64 - k := by rw [HT.out]; exact Nat.min_le_right _ _
      have ht0 : 0 < t := by rw [HT.out]; exact Nat.lt_min.2 ⟨h0, by omega⟩
      have hN9 : N ≤ 1000000000 := by rw [HN.out]; exact hL
      have c73 := hrow.cell (S.hcells_len_at h64)
      have hmod : (N : Int).tmod 64 = (k : Int) := by rw [Int.tmod_eq_emod_of_nonneg (by omega)]; omega
      have hsl : ∀ W, (Instr.sliceAt 60 (.pointer (some ⟨B, 9, none⟩)) (some (.int .i64 (k : Int))) none none).run Tryd.prog W = .ok (.slice (some ⟨B, 9 + k, none⟩) (64 - k) (64 - k)) W := fun W => S.run_slice_part W _ 5 B 9 64 k _ Tryd.underlying60 S.info_byte rfl hk64
      have HHN := Lib.hid hNk
      clear hL hNk
      go_wp2_with fail
      refine wp_region_still_tail 10 (by kernel_rfl) (by kernel_rfl) ?_
      simp only [List.take_succ_cons, List.take_zero, List.drop_succ_cons, List.drop_zero]
      repeat still_step
      refine wpStill_nil ?_
      change wpList _ _ _ _ _ wr.drew
      have hrow' : S.Row wr.drew B 86 (S.hcells p st last N) := hrow
      have hin2 : BytesIn wr.drew wr.drew.heap.size A' c' r := hin'.drewN 1
      have hbut' : S.But B w wr.drew := hbut.drew
      generalize wr.drew = wz at hrow' hin2 hbut' ⊢
      obtain ⟨ad, hA⟩ : ∃ ad, A' = some ad := by
        cases A' with
        | none => have := (hin2.none_ rfl).1; rw [this] at h0; simp at h0
        | some ad => exact ⟨ad, rfl⟩
      subst hA
      have hne2 := hne' ad rfl
      have hcopy := S.hcells_copy (p := p) (s := st) (n := N) (o := k) h64 (r.take t) (by rw [List.length_take]; omega)
      have HCOPY := Lib.hid hcopy
      have HLT := Lib.hid (show ((r.take t).map S.byteV).length = t by rw [List.length_map, List.length_take]; omega)
      clear c73 hmod hsl hrow hin' hbut hcopy
      obtain ⟨A2, hA2⟩ : ∃ A2, (if c' = t then some ad else some (ad.add t)) = A2 := ⟨_, rfl⟩
      have HA2 := Lib.hid hA2
      have hfit : 9 + k + ((r.take t).map S.byteV).length ≤ (S.hcells p st last N).length := by rw [HLT.out, S.hcells_len h64]; omega
      have HFIT := Lib.hid hfit
      have HX := Lib.hid (show (r.take t).length = t by rw [List.length_take]; omega)
      clear hfit
      have HD := Lib.hid hb
      clear hb
      by_cases hz : (N + t) % 64 = 0
      · have hzb : (((N : Int) + (t : Int)) % 64 == 0) = true := by rw [beq_iff_eq]; omega
        have HNZ := Lib.hid hz
        have HOK := Lib.hid (show st.ok by rw [HST.out]; exact S.after_ok _ _)
        have HL64 := S.last_len' h64 ht2 ht1
        clear hz
        go_wp2_with (refine S.wpList_copy_but rfl (.tmp 16) (.tmp 17) 33 33 rfl 5 Tryd.underlying33 S.info_byte B (9 + k) _ _ ad _ _ rfl rfl _ _ hrow' ((r.take t).map S.byteV) (by rw [HLT.out, HT.out]) (fun j v hj => S.take_src hin2 hj) HFIT.out (S.bytes_one _) ?_; intro w2 hrow2 hbut2; rw [HCOPY.out] at hrow2; rw [HLT.out]; have c73 := hrow2.cell (S.hcells_len_at (S.last_len' h64 ht2 ht1)); have f73 := hrow2.frozen 73)
        have hrow3 := hrow2.set 73 (.int .i64 ((N + t : Nat) : Int))
        rw [S.hcells_count (S.last_len' h64 ht2 ht1)] at hrow3
        have hbut3 : S.But B wz (w2.setCell ⟨B, 73, none⟩ (.int .i64 ((N + t : Nat) : Int))) := hbut2.setCell 73 none _
        have hin3 := (hin2.cut ht1).but (Nat.le_refl _) hbut3 (cut_block hne')
        have hne3 := cut_block (k := t) (p := c' = t) hne'
        rw [show (if c' = t then some ad else Option.map (fun x => x.add t) (some ad)) = A2 from HA2.out] at hin3 hne3
        have e3 : (w2.setCell ⟨B, 73, none⟩ (.int .i64 ((N + t : Nat) : Int))) = (w2.setCell ⟨B, 73, none⟩ (.int .i64 ((N : Int) + (t : Int)))) := rfl
        rw [e3] at hrow3 hbut3 hin3
        generalize (w2.setCell ⟨B, 73, none⟩ (.int .i64 ((N : Int) + (t : Int)))) = w3 at hrow3 hbut3 hin3 ⊢
        clear hrow2 hbut2 c73 f73 hrow' hin2 hzb e3
        obtain ⟨last2, HL2⟩ : ∃ last2, Hid (splice last k (r.take t) = last2) := ⟨_, Lib.hid rfl⟩
        rw [HL2.out] at hrow3 HL64
        have HI64 := Lib.hid (show (Tryd.prog.info? 60).map (·.size) = some (last2.map S.byteV).toArray.size by rw [S.info_blk]; simp [HL64])
        have hLD : Hid (S.SLaid w3.drew) := Lib.hid (((hbut'.trans hbut3).drew).laid HK.out hB)
        refine wp_region_noPanic ?_
        refine wp_region_held_drew (S := fun _ => True) (by kernel_rfl) trivial (fun hHeld => ?_)
        refine wpAnyH_take (i := 0) (oi := ({ dst := some 36, op := Op.move (Operand.tmp 0), type := 30, pos := "hash.go:81", after := #[], guard := none } : Oper)) (v := ?_) rfl (by kernel_rfl) (by kernel_rfl) (by kernel_rfl) (fun _ _ _ h => h) (Or.inl ⟨by rfl, ?_⟩) (by assumption) ?_
        rotate_left 1
        · intro w hSw
          (try dsimp only at hSw)
          go_simp
          (try with_reducible rfl)
        (try simp only [Act.put, List.setIfInBounds_toArray, List.set_cons_zero, List.set_cons_succ])
        refine wpAnyH_take (i := 1) (oi := ({ dst := some 37, op := Op.move (Operand.tmp 0), type := 30, pos := "hash.go:81", after := #[], guard := none } : Oper)) (v := ?_) rfl (by kernel_rfl) (by kernel_rfl) (by kernel_rfl) (fun _ _ _ h => h) (Or.inl ⟨by rfl, ?_⟩) (by assumption) ?_
        rotate_left 1
        · intro w hSw
          (try dsimp only at hSw)
          go_simp
          (try with_reducible rfl)
        (try simp only [Act.put, List.setIfInBounds_toArray, List.set_cons_zero, List.set_cons_succ])
        refine wpAnyH_take (i := 2) (oi := ({ dst := some 38, op := Op.nilCheck (Operand.tmp 37), type := 0, pos := "hash.go:81", after := #[{ on := 1, ground := Ground.data }], guard := none } : Oper)) (v := ?_) rfl (by kernel_rfl) (by kernel_rfl) (by kernel_rfl) (fun _ _ _ h => h) (Or.inl ⟨by rfl, ?_⟩) (by assumption) ?_
        rotate_left 1
        · intro w hSw
          (try dsimp only at hSw)
          go_simp
          (try with_reducible rfl)
        (try simp only [Act.put, List.setIfInBounds_toArray, List.set_cons_zero, List.set_cons_succ])
        refine wpAnyH_take (i := 3) (oi := ({ dst := some 39, op := Op.fieldAddr 86 (Operand.tmp 38) 1, type := 0, pos := "hash.go:81", after := #[{ on := 2, ground := Ground.data }], guard := none } : Oper)) (v := ?_) rfl (by kernel_rfl) (by kernel_rfl) (by kernel_rfl) (fun _ _ _ h => h) (Or.inl ⟨by rfl, ?_⟩) (by assumption) ?_
        rotate_left 1
        · intro w hSw
          (try dsimp only at hSw)
          go_simp
          (try with_reducible rfl)
        (try simp only [Act.put, List.setIfInBounds_toArray, List.set_cons_zero, List.set_cons_succ])
        refine wpAnyH_take (i := 5) (oi := ({ dst := some 41, op := Op.move (Operand.tmp 0), type := 30, pos := "hash.go:81", after := #[], guard := none } : Oper)) (v := ?_) rfl (by kernel_rfl) (by kernel_rfl) (by kernel_rfl) (fun _ _ _ h => h) (Or.inl ⟨by rfl, ?_⟩) (by assumption) ?_
        rotate_left 1
        · intro w hSw
          (try dsimp only at hSw)
          go_simp
          (try with_reducible rfl)
        (try simp only [Act.put, List.setIfInBounds_toArray, List.set_cons_zero, List.set_cons_succ])
        refine wpAnyH_take (i := 6) (oi := ({ dst := some 42, op := Op.nilCheck (Operand.tmp 41), type := 0, pos := "hash.go:81", after := #[{ on := 5, ground := Ground.data }], guard := none } : Oper)) (v := ?_) rfl (by kernel_rfl) (by kernel_rfl) (by kernel_rfl) (fun _ _ _ h => h) (Or.inl ⟨by rfl, ?_⟩) (by assumption) ?_
        rotate_left 1
        · intro w hSw
          (try dsimp only at hSw)
          go_simp
          (try with_reducible rfl)
        (try simp only [Act.put, List.setIfInBounds_toArray, List.set_cons_zero, List.set_cons_succ])
        refine wpAnyH_take (i := 7) (oi := ({ dst := some 43, op := Op.fieldAddr 86 (Operand.tmp 42) 2, type := 0, pos := "hash.go:81", after := #[{ on := 6, ground := Ground.data }], guard := none } : Oper)) (v := ?_) rfl (by kernel_rfl) (by kernel_rfl) (by kernel_rfl) (fun _ _ _ h => h) (Or.inl ⟨by rfl, ?_⟩) (by assumption) ?_
        rotate_left 1
        · intro w hSw
          (try dsimp only at hSw)
          go_simp
          (try with_reducible rfl)
        (try simp only [Act.put, List.setIfInBounds_toArray, List.set_cons_zero, List.set_cons_succ])
        have hrow3d : S.Row w3.drew B 86 (S.hcells p st last2 (N + t)) := hrow3
        refine wpAnyH_ready (rs := [4, 8]) (by kernel_rfl) (by simp) ?_
        refine AllReadyH.cons (o := ({ dst := some 40, op := Op.load 56 (Operand.tmp 39), type := 56, pos := "hash.go:81", after := #[{ on := 3, ground := Ground.data }], guard := none } : Oper)) rfl (fun K hK => ?_) (AllReadyH.cons (o := ({ dst := some 44, op := Op.load 60 (Operand.tmp 43), type := 60, pos := "hash.go:81", after := #[{ on := 7, ground := Ground.data }], guard := none } : Oper)) rfl (fun K hK => ?_) AllReadyH.nil)
        · refine S.step_load_part rfl _ (.tmp 39) rfl B 1 rfl (S.vals st) _ (fun j v hj => S.Row.cell hrow3d (S.hcells_state_at hj)) Tryd.underlying56 rfl (S.info_vals _) ?_
          refine hK.out _ _ trivial (fun _ => ?_)
          clear hK K
          (try simp only [Act.put, List.setIfInBounds_toArray, List.set_cons_zero, List.set_cons_succ])
          refine wpAnyH_ready (rs := [8]) (by kernel_rfl) (by simp) ?_
          refine AllReadyH.cons (o := ({ dst := some 44, op := Op.load 60 (Operand.tmp 43), type := 60, pos := "hash.go:81", after := #[{ on := 7, ground := Ground.data }], guard := none } : Oper)) rfl (fun K hK => ?_) AllReadyH.nil
          refine S.step_load_part rfl _ (.tmp 43) rfl B 9 rfl (last2.map S.byteV).toArray _ (fun j v hj => S.Row.cell hrow3d (S.hcells_last_at hj)) Tryd.underlying60 rfl HI64.out ?_
          refine hK.out _ _ trivial (fun _ => ?_)
          clear hK K
          (try simp only [Act.put, List.setIfInBounds_toArray, List.set_cons_zero, List.set_cons_succ])
          refine wpAnyH_ready (rs := [9]) (by kernel_rfl) (by simp) ?_
          refine AllReadyH.cons (o := ({ dst := some 45, op := Op.call { callee := Callee.value (Operand.func 65), args := #[Operand.tmp 40, Operand.tmp 44], argTypes := #[56, 60] }, type := 56, pos := "hash.go:81", after := #[{ on := 4, ground := Ground.data }, { on := 8, ground := Ground.data }], guard := none } : Oper)) rfl (fun K hK => ?_) AllReadyH.nil
          go_simp
          refine (Block_any st HOK.out last2 HL64 _ (hLD.out)).mono ?_
          rintro e w4 ⟨rfl, hb4⟩
          have hrow4 := hrow3d.below hb4 hrow3d.lt
          have hbut4 : S.But B w3 w4 := (S.But.refl B w3).drew.trans (S.But.of_below hb4)
          refine hK.out _ _ trivial (fun _ => ?_)
          clear hK K
          (try simp only [Act.put, List.setIfInBounds_toArray, List.set_cons_zero, List.set_cons_succ])
          refine wpAnyH_take (i := 10) (oi := ({ dst := some 46, op := Op.nilCheck (Operand.tmp 36), type := 0, pos := "hash.go:81", after := #[{ on := 0, ground := Ground.data }, { on := 0, ground := Ground.phase }, { on := 1, ground := Ground.phase }, { on := 2, ground := Ground.phase }, { on := 3, ground := Ground.phase }, { on := 4, ground := Ground.phase }, { on := 5, ground := Ground.phase }, { on := 6, ground := Ground.phase }, { on := 7, ground := Ground.phase }, { on := 8, ground := Ground.phase }, { on := 9, ground := Ground.phase }], guard := none } : Oper)) (v := ?_) rfl (by kernel_rfl) (by kernel_rfl) (by kernel_rfl) (fun _ _ _ h => h) (Or.inl ⟨by rfl, ?_⟩) (by assumption) ?_
          rotate_left 1
          · intro w hSw
            (try dsimp only at hSw)
            go_simp
            (try with_reducible rfl)
          (try simp only [Act.put, List.setIfInBounds_toArray, List.set_cons_zero, List.set_cons_succ])
          refine wpAnyH_take (i := 11) (oi := ({ dst := some 47, op := Op.fieldAddr 86 (Operand.tmp 46) 1, type := 0, pos := "hash.go:81", after := #[{ on := 10, ground := Ground.data }, { on := 0, ground := Ground.phase }, { on := 1, ground := Ground.phase }, { on := 2, ground := Ground.phase }, { on := 3, ground := Ground.phase }, { on := 4, ground := Ground.phase }, { on := 5, ground := Ground.phase }, { on := 6, ground := Ground.phase }, { on := 7, ground := Ground.phase }, { on := 8, ground := Ground.phase }, { on := 9, ground := Ground.phase }], guard := none } : Oper)) (v := ?_) rfl (by kernel_rfl) (by kernel_rfl) (by kernel_rfl) (fun _ _ _ h => h) (Or.inl ⟨by rfl, ?_⟩) (by assumption) ?_
          rotate_left 1
          · intro w hSw
            (try dsimp only at hSw)
            go_simp
            (try with_reducible rfl)
          (try simp only [Act.put, List.setIfInBounds_toArray, List.set_cons_zero, List.set_cons_succ])
          refine wpAnyH_ready (rs := [12]) (by kernel_rfl) (by simp) ?_
          refine AllReadyH.cons (o := ({ dst := none, op := Op.store 56 (Operand.tmp 47) (Operand.tmp 45), type := 0, pos := "hash.go:81", after := #[{ on := 11, ground := Ground.data }, { on := 9, ground := Ground.data }, { on := 9, ground := Ground.chain }, { on := 0, ground := Ground.phase }, { on := 1, ground := Ground.phase }, { on := 2, ground := Ground.phase }, { on := 3, ground := Ground.phase }, { on := 4, ground := Ground.phase }, { on := 5, ground := Ground.phase }, { on := 6, ground := Ground.phase }, { on := 7, ground := Ground.phase }, { on := 8, ground := Ground.phase }, { on := 9, ground := Ground.phase }], guard := none } : Oper)) rfl (fun K hK => ?_) AllReadyH.nil
          refine S.step_store_part rfl _ (.tmp 47) (.tmp 45) rfl B 1 _ rfl rfl _ _ hrow4 (S.info_vals _) (by rw [S.hcells_len HL64]; show 1 + 8 ≤ 74; omega) (S.vals_one _) ?_
          intro w5 hrow5 hbut5
          refine hK.out _ _ trivial (fun _ => ?_)
          clear hK K
          (try simp only [Act.put, List.setIfInBounds_toArray, List.set_cons_zero, List.set_cons_succ])
          refine wpAnyH_done (by kernel_rfl) ?_ _
          refine NoPanic.normal ?_
          rw [S.hcells_state] at hrow5
          have hbut6 := hbut3.trans (hbut4.trans hbut5)
          have hin6 := hin3.but hbut3.size (hbut4.trans hbut5) hne3
          go_wp2_with fail
          go_roundw
          case rel =>
            refine ⟨d ++ r.take t, r.drop t, A2, c' - t, by rw [List.append_assoc, List.take_append_drop]; exact HD.out, by rw [List.length_drop], ?_, fun _ => hne3, ?_, ?_⟩
            · exact hin6.more (Nat.le_trans hbut3.size (hbut4.trans hbut5).size)
            · rw [← List.append_assoc, ← HM.out]
              refine S.hash_whole h64 hlast ?_ ?_ ?_ ?_
              · have := HKk.out; rw [HX.out]; omega
              · have := HNZ.out; have := HN.out; rw [HX.out]; omega
              · rw [HX.out]; exact ht0
              · rw [HX.out, ← HKk.out, ← HST.out, ← HN.out, HL2.out]; exact hrow5
            · exact hbut'.trans hbut6
          case measure => simp; omega
        · refine S.step_load_part rfl _ (.tmp 43) rfl B 9 rfl (last2.map S.byteV).toArray _ (fun j v hj => S.Row.cell hrow3d (S.hcells_last_at hj)) Tryd.underlying60 rfl HI64.out ?_
          refine hK.out _ _ trivial (fun _ => ?_)
          clear hK K
          (try simp only [Act.put, List.setIfInBounds_toArray, List.set_cons_zero, List.set_cons_succ])
          refine wpAnyH_ready (rs := [4]) (by kernel_rfl) (by simp) ?_
          refine AllReadyH.cons (o := ({ dst := some 40, op := Op.load 56 (Operand.tmp 39), type := 56, pos := "hash.go:81", after := #[{ on := 3, ground := Ground.data }], guard := none } : Oper)) rfl (fun K hK => ?_) AllReadyH.nil
          refine S.step_load_part rfl _ (.tmp 39) rfl B 1 rfl (S.vals st) _ (fun j v hj => S.Row.cell hrow3d (S.hcells_state_at hj)) Tryd.underlying56 rfl (S.info_vals _) ?_
          refine hK.out _ _ trivial (fun _ => ?_)
          clear hK K
          (try simp only [Act.put, List.setIfInBounds_toArray, List.set_cons_zero, List.set_cons_succ])
          refine wpAnyH_ready (rs := [9]) (by kernel_rfl) (by simp) ?_
          refine AllReadyH.cons (o := ({ dst := some 45, op := Op.call { callee := Callee.value (Operand.func 65), args := #[Operand.tmp 40, Operand.tmp 44], argTypes := #[56, 60] }, type := 56, pos := "hash.go:81", after := #[{ on := 4, ground := Ground.data }, { on := 8, ground := Ground.data }], guard := none } : Oper)) rfl (fun K hK => ?_) AllReadyH.nil
          go_simp
          refine (Block_any st HOK.out last2 HL64 _ (hLD.out)).mono ?_
          rintro e w4 ⟨rfl, hb4⟩
          have hrow4 := hrow3d.below hb4 hrow3d.lt
          have hbut4 : S.But B w3 w4 := (S.But.refl B w3).drew.trans (S.But.of_below hb4)
          refine hK.out _ _ trivial (fun _ => ?_)
          clear hK K
          (try simp only [Act.put, List.setIfInBounds_toArray, List.set_cons_zero, List.set_cons_succ])
          refine wpAnyH_take (i := 10) (oi := ({ dst := some 46, op := Op.nilCheck (Operand.tmp 36), type := 0, pos := "hash.go:81", after := #[{ on := 0, ground := Ground.data }, { on := 0, ground := Ground.phase }, { on := 1, ground := Ground.phase }, { on := 2, ground := Ground.phase }, { on := 3, ground := Ground.phase }, { on := 4, ground := Ground.phase }, { on := 5, ground := Ground.phase }, { on := 6, ground := Ground.phase }, { on := 7, ground := Ground.phase }, { on := 8, ground := Ground.phase }, { on := 9, ground := Ground.phase }], guard := none } : Oper)) (v := ?_) rfl (by kernel_rfl) (by kernel_rfl) (by kernel_rfl) (fun _ _ _ h => h) (Or.inl ⟨by rfl, ?_⟩) (by assumption) ?_
          rotate_left 1
          · intro w hSw
            (try dsimp only at hSw)
            go_simp
            (try with_reducible rfl)
          (try simp only [Act.put, List.setIfInBounds_toArray, List.set_cons_zero, List.set_cons_succ])
          refine wpAnyH_take (i := 11) (oi := ({ dst := some 47, op := Op.fieldAddr 86 (Operand.tmp 46) 1, type := 0, pos := "hash.go:81", after := #[{ on := 10, ground := Ground.data }, { on := 0, ground := Ground.phase }, { on := 1, ground := Ground.phase }, { on := 2, ground := Ground.phase }, { on := 3, ground := Ground.phase }, { on := 4, ground := Ground.phase }, { on := 5, ground := Ground.phase }, { on := 6, ground := Ground.phase }, { on := 7, ground := Ground.phase }, { on := 8, ground := Ground.phase }, { on := 9, ground := Ground.phase }], guard := none } : Oper)) (v := ?_) rfl (by kernel_rfl) (by kernel_rfl) (by kernel_rfl) (fun _ _ _ h => h) (Or.inl ⟨by rfl, ?_⟩) (by assumption) ?_
          rotate_left 1
          · intro w hSw
            (try dsimp only at hSw)
            go_simp
            (try with_reducible rfl)
          (try simp only [Act.put, List.setIfInBounds_toArray, List.set_cons_zero, List.set_cons_succ])
          refine wpAnyH_ready (rs := [12]) (by kernel_rfl) (by simp) ?_
          refine AllReadyH.cons (o := ({ dst := none, op := Op.store 56 (Operand.tmp 47) (Operand.tmp 45), type := 0, pos := "hash.go:81", after := #[{ on := 11, ground := Ground.data }, { on := 9, ground := Ground.data }, { on := 9, ground := Ground.chain }, { on := 0, ground := Ground.phase }, { on := 1, ground := Ground.phase }, { on := 2, ground := Ground.phase }, { on := 3, ground := Ground.phase }, { on := 4, ground := Ground.phase }, { on := 5, ground := Ground.phase }, { on := 6, ground := Ground.phase }, { on := 7, ground := Ground.phase }, { on := 8, ground := Ground.phase }, { on := 9, ground := Ground.phase }], guard := none } : Oper)) rfl (fun K hK => ?_) AllReadyH.nil
          refine S.step_store_part rfl _ (.tmp 47) (.tmp 45) rfl B 1 _ rfl rfl _ _ hrow4 (S.info_vals _) (by rw [S.hcells_len HL64]; show 1 + 8 ≤ 74; omega) (S.vals_one _) ?_
          intro w5 hrow5 hbut5
          refine hK.out _ _ trivial (fun _ => ?_)
          clear hK K
          (try simp only [Act.put, List.setIfInBounds_toArray, List.set_cons_zero, List.set_cons_succ])
          refine wpAnyH_done (by kernel_rfl) ?_ _
          refine NoPanic.normal ?_
          rw [S.hcells_state] at hrow5
          have hbut6 := hbut3.trans (hbut4.trans hbut5)
          have hin6 := hin3.but hbut3.size (hbut4.trans hbut5) hne3
          go_wp2_with fail
          go_roundw
          case rel =>
            refine ⟨d ++ r.take t, r.drop t, A2, c' - t, by rw [List.append_assoc, List.take_append_drop]; exact HD.out, by rw [List.length_drop], ?_, fun _ => hne3, ?_, ?_⟩
            · exact hin6.more (Nat.le_trans hbut3.size (hbut4.trans hbut5).size)
            · rw [← List.append_assoc, ← HM.out]
              refine S.hash_whole h64 hlast ?_ ?_ ?_ ?_
              · have := HKk.out; rw [HX.out]; omega
              · have := HNZ.out; have := HN.out; rw [HX.out]; omega
              · rw [HX.out]; exact ht0
              · rw [HX.out, ← HKk.out, ← HST.out, ← HN.out, HL2.out]; exact hrow5
            · exact hbut'.trans hbut6
          case measure => simp; omega
      · have hzb : (((N : Int) + (t : Int)) % 64 == 0) = false := by rw [beq_eq_false_iff_ne]; omega
        have HNZ := Lib.hid hz
        clear hz
        go_wp2_with (refine S.wpList_copy_but rfl (.tmp 16) (.tmp 17) 33 33 rfl 5 Tryd.underlying33 S.info_byte B (9 + k) _ _ ad _ _ rfl rfl _ _ hrow' ((r.take t).map S.byteV) (by rw [HLT.out, HT.out]) (fun j v hj => S.take_src hin2 hj) HFIT.out (S.bytes_one _) ?_; intro w2 hrow2 hbut2; rw [HCOPY.out] at hrow2; rw [HLT.out]; have c73 := hrow2.cell (S.hcells_len_at (S.last_len' h64 ht2 ht1)); have f73 := hrow2.frozen 73)
        have hrow3 := hrow2.set 73 (.int .i64 ((N + t : Nat) : Int))
        rw [S.hcells_count (S.last_len' h64 ht2 ht1)] at hrow3
        have hbut3 : S.But B wz (w2.setCell ⟨B, 73, none⟩ (.int .i64 ((N + t : Nat) : Int))) := hbut2.setCell 73 none _
        have hin3 := (hin2.cut ht1).but (Nat.le_refl _) hbut3 (cut_block hne')
        have hne3 := cut_block (k := t) (p := c' = t) hne'
        rw [show (if c' = t then some ad else Option.map (fun x => x.add t) (some ad)) = A2 from HA2.out] at hin3 hne3
        go_roundw
        case rel =>
          refine ⟨d ++ r.take t, r.drop t, A2, c' - t, by rw [List.append_assoc, List.take_append_drop]; exact HD.out, by rw [List.length_drop], ?_, fun _ => hne3, ?_, ?_⟩
          · exact hin3.more hbut3.size
          · rw [← List.append_assoc, ← HM.out]
            refine S.hash_part h64 hlast ?_ ?_
            · have := HNZ.out; have := HN.out; have := HKk.out; rw [HX.out]; omega
            · rw [HX.out, ← HKk.out, ← HST.out, ← HN.out]; exact hrow3
          · exact hbut'.trans hbut3
        case measure => simp; omega
    · obtain rfl : r = [] := List.eq_nil_of_length_eq_zero (by omega)
      have hd : d = b := by rw [← hb, List.append_nil]
      subst hd
      clear hb hin' hne' hbl h0 hlen
      go_wp2_with fail
      go_end0
      exact ⟨rfl, hh', hbut⟩
end Go.Proofs.YtgpgnfdbjljljaaDoor
