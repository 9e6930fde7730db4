/- The contract of package sha's digest. -/
import Derived.Test.YtgpgnfdbjljljaaDoorShaTake
namespace Go.Proofs.YtgpgnfdbjljljaaDoor
open Go.RowKit
namespace S
theorem zeros_all (n : Nat) : (n + (pad n).length) % 64 = 0 := by
  unfold pad zeros
  simp [be_len]
  omega
theorem pad_len (n : Nat) : (pad n).length ≤ 72 ∧ 9 ≤ (pad n).length := by
  have : zeros n < 64 := Nat.mod_lt _ (by decide)
  unfold pad
  simp [be_len]
  omega
/-- The state behind all blocks, padding and all. -/
def last_ (l : List UInt8) : St := after (l ++ pad l.length) ((l ++ pad l.length).length / 64)
theorem digest_eq (l : List UInt8) : digest l = bytesOf (last_ l) := rfl
theorem wpList_store_but {P : Program} {ops : Array Oper} {rest : List Oper} {o : Oper} {a : Act} {w : World} {Q : Exit → Act → World → Prop} (hgd : o.guard = none) (ty : TypeId) (x y : Operand) (ho : o.op = .store ty x y)
    (g : Nat) (cells : List Value) (hx : a.eval x = .pointer (some ⟨g, 0, none⟩)) (hy : a.eval y = .agg cells.toArray)
    (t : TypeId) (old : List Value) (hg : Row w g t old) (hi : (P.info? ty).map (·.size) = some cells.toArray.size)
    (hold : old.length = cells.length) (h1 : cells.toArray.all (·.oneCell') = true)
    (h : ∀ w', Row w' g t cells → But g w w' → wpList P ops Q rest (a.put o.dst undef) w') : wpList P ops Q (o :: rest) a w :=
  wpList_store_row hgd ty x y ho g cells.toArray hx hy t old.toArray hg hi (by simpa using hold) h1 (h _ (setRow_heap w g _ _ t _ hg) ((But.refl g w).setRow _))
theorem own_slice {w : World} {base n : Nat} {v : Value} {xs : List Value} (h : w.ownsRow base 5 1 v n xs) : ∃ A c, v = .slice A n c ∧ ∀ ad, A = some ad → base ≤ ad.block := by
  rcases h.2 with ⟨h1, h2⟩ | ⟨g, cap, cur, h1, hg, _⟩
  · exact ⟨none, 0, by rw [h1, h2], fun _ e => by cases e⟩
  · exact ⟨some ⟨g, 0, none⟩, cap, h1, fun ad e => by injection e with e; subst e; exact hg⟩
theorem be4 {x : Nat} (h : x < 4294967296) : (be x 4).map byteV = [.int .u8 (x / 16777216 : Nat), .int .u8 (x / 65536 % 256 : Nat), .int .u8 (x / 256 % 256 : Nat), .int .u8 (x % 256 : Nat)] := by
  have e : x / 16777216 % 256 = x / 16777216 := Nat.mod_eq_of_lt (by omega)
  simp [be, byteV, UInt8.toNat_ofNat', e]
/-- The first bytes of a digest, and zeros. -/
def part (s : St) (k : Nat) : List UInt8 := (s.list.take k).flatMap (fun x => be x 4) ++ List.replicate (32 - 4 * k) 0
theorem flat_len (l : List Nat) : (l.flatMap (fun x => be x 4)).length = 4 * l.length := by
  induction l with
  | nil => rfl
  | cons a l ih => rw [List.flatMap_cons, List.length_append, ih, be_len, List.length_cons]; omega
theorem part_len (s : St) {k : Nat} (h : k ≤ 8) : (part s k).length = 32 := by
  have : s.list.length = 8 := rfl
  unfold part
  rw [List.length_append, flat_len, List.length_take, List.length_replicate, this]
  omega
theorem part_next (s : St) {k : Nat} (h : k < 8) : splice (part s k) (4 * k) (be (s.list.getD k 0) 4) = part s (k + 1) := by
  have hl : s.list.length = 8 := rfl
  have h1 : ((s.list.take k).flatMap (fun x => be x 4)).length = 4 * k := by rw [flat_len, List.length_take, hl]; omega
  have h2 : s.list.take (k + 1) = s.list.take k ++ [s.list.getD k 0] := by
    rw [List.take_succ_eq_append_getElem (by rw [hl]; exact h), List.getD_eq_getElem?_getD, List.getElem?_eq_getElem (by rw [hl]; exact h)]
    rfl
  unfold splice
  unfold part
  rw [be_len, List.take_append_of_le_length (by omega), List.take_of_length_le (by omega), List.drop_append, List.drop_eq_nil_of_le (by omega), List.nil_append, h1, List.drop_replicate, h2, List.flatMap_append, List.append_assoc]
  congr 1
  rw [List.flatMap_cons, List.flatMap_nil, List.append_nil]
  congr 2
  omega
theorem part_all (s : St) : part s 8 = bytesOf s := by
  unfold part bytesOf
  rw [List.take_of_length_le (show s.list.length ≤ 8 from Nat.le_refl 8)]
  simp
theorem list_lt {s : St} (h : s.ok) {k : Nat} (hk : k < 8) : s.list.getD k 0 < 4294967296 := by
  obtain ⟨⟨ha, hb, hc, hd⟩, he, hf, hg, hh⟩ := h
  obtain rfl | rfl | rfl | rfl | rfl | rfl | rfl | rfl : k = 0 ∨ k = 1 ∨ k = 2 ∨ k = 3 ∨ k = 4 ∨ k = 5 ∨ k = 6 ∨ k = 7 := by omega
  all_goals assumption
theorem zeroCells_hash : Tryd.zeroCells86.size = 74 := by kernel_rfl
end S
set_option maxRecDepth 100000 in
set_option maxHeartbeats 2000000 in
theorem digest_any (B : Nat) (p : Addr) (l : List UInt8) (w : World) (hK : S.SLaid w) (hh : S.HashP w B p l) (hlen : l.length ≤ 100000000) :
    Calls Tryd.prog 52 #[.pointer (some ⟨B, 0, none⟩)] w fun e w' => e = .returned (.agg ((S.digest l).map S.byteV).toArray) ∧ Below w.heap.size w w' := by
  have HK := Lib.hid hK
  have h2 := hK.lt.1
  clear hK
  obtain ⟨last, h64, hlast, hrow⟩ := hh.row
  have hBlt := hrow.lt
  have c73 := hrow.cell (S.hcells_len_at h64)
  obtain ⟨CS, HCS⟩ : ∃ CS, Hid (CS = S.hcells p (S.after l (l.length / 64)) last l.length) := ⟨_, Lib.hid rfl⟩
  rw [← HCS.out] at hrow
  have hC73 := S.hcells_len_at (p := p) (s := S.after l (l.length / 64)) (n := l.length) h64
  rw [← HCS.out] at hC73
  have HCl := Lib.hid (show CS.length = 74 by rw [HCS.out, S.hcells_len h64])
  have HC1 := Lib.hid (show CS.toArray.all (·.oneCell') = true by rw [HCS.out]; exact S.hcells_one _ _ _ _)
  have HI := Lib.hid (show (Tryd.prog.info? 86).map (·.size) = some CS.toArray.size by rw [S.info_hash]; simp [HCl.out])
  have HL := Lib.hid hlast
  obtain ⟨N, HN⟩ : ∃ N, Hid (N = l.length) := ⟨_, Lib.hid rfl⟩
  rw [← HN.out] at c73 hC73
  have C73 := Lib.hid hC73
  clear hC73
  have hN : N ≤ 100000000 := by rw [HN.out]; exact hlen
  clear hlast hlen hh
  obtain ⟨D, HD⟩ : ∃ D, Hid (D = (S.digest l).map S.byteV) := ⟨_, Lib.hid rfl⟩
  rw [← HD.out]
  go_enter Tryd.func52, Tryd.ntmps52
  go_wp2_with (first
    | (refine wpList_load_row rfl 86 (.tmp 11) rfl B rfl _ CS.toArray (0, 0) _ (hrow.alloc _) Tryd.underlying86 rfl HI.out ?_)
    | (refine S.wpList_store_but rfl 86 (.tmp 3) (.tmp 12) rfl (w.heap.size + 1) CS rfl rfl _ _ (S.Row.made _ _ _ (by simp) rfl) HI.out (by rw [HCl.out]; exact S.zeroCells_hash) HC1.out ?_; intro w1 hrow1 hbut1; have hrowB := hbut1.row ((hrow.alloc _).alloc _) (by omega); have c73b := hrowB.cell C73.out))
  refine (Pad_yes N (by omega) _).mono ?_
  rintro e w2 ⟨v2, rfl, hown2, hb2⟩
  obtain ⟨A, c, rfl, hA⟩ := S.own_slice hown2
  have hin2 := BytesIn.of_own hown2
  have hz0 : w.heap.size + 2 ≤ w1.heap.size := by have := hbut1.size; simp at this; omega
  have hb01 : Below w.heap.size w w1 := (((Below.refl _ _).alloc (Nat.le_refl _) _).alloc (by simp) _).trans (hbut1.below (by omega) (by simp; omega))
  have hb02 := hb01.trans (hb2.mono (by omega))
  have hrow2 := hrow1.below hb2 (by omega)
  have hp2 : S.HashP w2 (w.heap.size + 1) p l := ⟨last, h64, HL.out, by rw [← HCS.out]; exact hrow2⟩
  have hres2 : S.Row w2 w.heap.size 22 ((List.replicate 32 (0 : UInt8)).map S.byteV) := (hbut1.row ((S.Row.made _ _ _ rfl rfl).alloc _) (by omega)).below hb2 (by omega)
  have HLAID := Lib.hid (HK.out.below hb02 (by omega))
  have hpl := (S.pad_len N).1
  have HB02 := Lib.hid hb02
  have hs2 : w.heap.size + 2 ≤ w2.heap.size := Nat.le_trans hz0 hb2.size
  clear c73b hrowB hrow1 hbut1 hb01 hb02 hown2 hb2 hrow2 c73
  go_wp2_with fail
  refine (take_any (w.heap.size + 1) p l A c (S.pad N) w2 HLAID.out (by omega) hp2 hin2 (fun _ ad e => by have := hA ad e; omega) (by rw [← HN.out]; omega)).mono ?_
  rintro e w3 ⟨rfl, hp3, hbut3⟩
  have hres3 := hbut3.row hres2 (by omega)
  have hb03 := HB02.out.trans (hbut3.below (C := w.heap.size) (by omega) (by omega))
  have hs3 : w.heap.size + 2 ≤ w3.heap.size := Nat.le_trans hs2 hbut3.size
  clear hin2 hp2 hbut3 hres2 hA
  obtain ⟨last3, _, _, hrow3⟩ := hp3.row
  obtain ⟨s, HS⟩ : ∃ s, Hid (s = S.last_ l) := ⟨_, Lib.hid rfl⟩
  have HOK := Lib.hid (show s.ok by rw [HS.out]; exact S.after_ok _ _)
  rw [HN.out, show S.after (l ++ S.pad l.length) ((l ++ S.pad l.length).length / 64) = s from HS.out.symm] at hrow3
  generalize (l ++ S.pad l.length).length = n3 at hrow3
  clear hp3
  go_wp2_with (refine S.wpList_load_part rfl 56 (.tmp 23) rfl (w.heap.size + 1) 1 rfl (S.vals s) _ (fun j v hj => (hrow3.alloc _).cell (S.hcells_state_at hj)) Tryd.underlying56 rfl (S.info_vals _) ?_)
  go_loopw [25] (fun i wr => ∃ k : Nat, k ≤ 8 ∧ i = .int .i64 k ∧ S.Row wr w.heap.size 22 ((List.replicate 32 (0 : UInt8)).map S.byteV) ∧ S.Row wr w3.heap.size 22 ((S.part s k).map S.byteV) ∧ Below w.heap.size w wr) (fun i _ => 8 - (intOf i).toNat)
  case atStart => exact ⟨0, Nat.zero_le _, rfl, hres3.alloc _, S.Row.made _ _ _ rfl rfl, hb03.alloc (by omega) _⟩
  case round =>
    clear hrow3 hres3 hb03
    obtain ⟨k, hk, rfl, hres, hr6, hbel⟩ := hrel
    by_cases hlt : k < 8
    · obtain ⟨x, X⟩ : ∃ x, Hid (x = s.list.getD k 0) := ⟨_, Lib.hid rfl⟩
      have hidx : (Instr.index 56 (.agg (S.vals s)) (.int .i64 (k : Int))).run Tryd.prog wr = .ok (.int .u32 (x : Nat)) wr := S.run_index_agg wr _ 49 8 k _ _ _ Tryd.underlying56 S.info_word S.plain_word rfl hlt (by rw [X.out]; exact S.list_at s hlt)
      have hx : x < 4294967296 := by rw [X.out]; exact S.list_lt HOK.out hlt
      go_wp2_with fail
      refine (bytesOf_any x hx _).mono ?_
      rintro e w4 ⟨rfl, hb4⟩
      have hres4 := hres.below hb4 hres.lt
      have hr64 := hr6.below hb4 hr6.lt
      have hb5 := hbel.trans (hb4.mono hbel.size)
      clear hidx hb4 hbel hres hr6
      go_wp2_with fail
      have hr9 : S.Row (w4.alloc (.cells #[.int .u8 ((x : Int) / 16777216), .int .u8 ((x : Int) / 65536 % 256), .int .u8 ((x : Int) / 256 % 256), .int .u8 ((x : Int) % 256)] 97)) w4.heap.size 97 ((S.be x 4).map S.byteV) := S.Row.made _ _ _ rfl (by rw [S.be4 hx]; simp)
      have hres5 := hres4.alloc (.cells #[.int .u8 ((x : Int) / 16777216), .int .u8 ((x : Int) / 65536 % 256), .int .u8 ((x : Int) / 256 % 256), .int .u8 ((x : Int) % 256)] 97)
      have hr65 := hr64.alloc (.cells #[.int .u8 ((x : Int) / 16777216), .int .u8 ((x : Int) / 65536 % 256), .int .u8 ((x : Int) / 256 % 256), .int .u8 ((x : Int) % 256)] 97)
      have hb6 := hb5.alloc (o := .cells #[.int .u8 ((x : Int) / 16777216), .int .u8 ((x : Int) / 65536 % 256), .int .u8 ((x : Int) / 256 % 256), .int .u8 ((x : Int) % 256)] 97) hb5.size
      have hlt6 := hr64.lt
      generalize (w4.alloc (.cells #[.int .u8 ((x : Int) / 16777216), .int .u8 ((x : Int) / 65536 % 256), .int .u8 ((x : Int) / 256 % 256), .int .u8 ((x : Int) % 256)] 97)) = w5 at hr9 hres5 hr65 hb6 ⊢
      clear hres4 hr64 hb5
      have s1 : ∀ W, (Instr.sliceAt 22 (.pointer (some ⟨w3.heap.size, 0, none⟩)) (some (.int .i64 ((k : Int) * 4))) none none).run Tryd.prog W = .ok (.slice (some ⟨w3.heap.size, 0 + 4 * k, none⟩) (32 - 4 * k) (32 - 4 * k)) W := fun W => S.run_slice_part W _ 5 _ 0 32 (4 * k) _ Tryd.underlying22 S.info_byte (by omega) (by omega)
      have m4 : IntKind.i64.wrap ((k : Int) * 4) = (k : Int) * 4 := IntWalk.i64_in _ (by omega)
      refine wp_region_still_tail 4 (by kernel_rfl) (by kernel_rfl) ?_
      simp only [List.take_succ_cons, List.take_zero, List.drop_succ_cons, List.drop_zero]
      repeat still_step
      refine wpStill_nil ?_
      change wpList _ _ _ _ _ w5.drew
      have hr9' : S.Row w5.drew w4.heap.size 97 ((S.be x 4).map S.byteV) := hr9
      have hres5' : S.Row w5.drew w.heap.size 22 ((List.replicate 32 (0 : UInt8)).map S.byteV) := hres5
      have hr65' : S.Row w5.drew w3.heap.size 22 ((S.part s k).map S.byteV) := hr65
      have hb6' : Below w.heap.size w w5.drew := hb6.drew
      generalize w5.drew = w6 at hr9' hres5' hr65' hb6' ⊢
      clear hr9 hres5 hr65 hb6 s1 m4
      have HPN := Lib.hid (show splice ((S.part s k).map S.byteV) (4 * k) ((S.be x 4).map S.byteV) = (S.part s (k + 1)).map S.byteV by rw [← S.splice_map, X.out, S.part_next s hlt])
      have hLn : ((S.be x 4).map S.byteV).length = 4 := by rw [List.length_map, be_len]
      have HLn := Lib.hid hLn
      have HMn := Lib.hid (show ((S.be x 4).map S.byteV).length = Nat.min 4 (32 - 4 * k) by rw [hLn]; exact (Nat.min_eq_left (by omega)).symm)
      have HFit := Lib.hid (show 4 * k + ((S.be x 4).map S.byteV).length ≤ ((S.part s k).map S.byteV).length by rw [hLn, List.length_map, S.part_len s (by omega)]; omega)
      clear hLn
      go_wp2_with (refine S.wpList_copy_but rfl (.tmp 33) (.tmp 34) 33 33 rfl 5 Tryd.underlying33 S.info_byte w3.heap.size (4 * k) _ _ ⟨w4.heap.size, 0, none⟩ _ _ rfl rfl _ _ hr65' ((S.be x 4).map S.byteV) HMn.out (fun j v hj => by rw [S.addr_at, Nat.zero_add]; exact hr9'.cell hj) HFit.out (S.bytes_one _) ?_; intro w7 hr7 hbut7; rw [HPN.out] at hr7; rw [HLn.out])
      have hres7 := hbut7.row hres5' (by omega)
      have hb7 := hb6'.trans (hbut7.below (C := w.heap.size) (by omega) hb6'.size)
      clear hr9' hres5' hr65' hb6' hbut7
      go_roundw
      case rel => first | exact ⟨k + 1, by omega, by go_num, hres7, hr7, hb7⟩ | ((repeat apply Exists.intro); exact ⟨⟨k + 1, by omega, by go_num, hres7, hr7, hb7⟩, rfl⟩)
      case measure => simp [intOf]; omega
    · obtain rfl : k = 8 := by omega
      have hr8 : S.Row wr w3.heap.size 22 D := by rw [HD.out, S.digest_eq, ← HS.out, ← S.part_all]; exact hr6
      have HDl := Lib.hid (show D.length = 32 by rw [HD.out, S.digest_eq, ← S.part_all, List.length_map, S.part_len _ (Nat.le_refl _)])
      have HDi := Lib.hid (show (Tryd.prog.info? 22).map (·.size) = some D.toArray.size by rw [S.info_d32]; simp [HDl.out])
      have HD1 := Lib.hid (show D.toArray.all (·.oneCell') = true by rw [HD.out]; exact S.bvals_one _)
      have HB := Lib.hid hbel
      clear hr6 hbel hlt hk
      go_wp2_with (first
        | (refine wpList_load_row rfl 22 (.tmp 6) rfl w3.heap.size rfl _ D.toArray (0, 0) _ hr8 Tryd.underlying22 rfl HDi.out ?_)
        | (refine S.wpList_store_but rfl 22 (.tmp 2) (.tmp 37) rfl w.heap.size D rfl rfl _ _ hres HDi.out (by rw [HDl.out]; rfl) HD1.out ?_; intro w9 hr9 hbut9))
      exact bodyPost_ret (v := .agg D.toArray) (results_cell_row Tryd.results52 _ _ w.heap.size _ _ _ _ rfl hr9 Tryd.underlying22 rfl HDi.out) rfl ⟨rfl, HB.out.trans (hbut9.below (Nat.le_refl _) HB.out.size)⟩
end Go.Proofs.YtgpgnfdbjljljaaDoor
