/- slices.SortedFunc of at most twelve items, by a queue's compare; the values of a queue in their order; Save. -/
import Derived.Test.YtdkfaepmgennjaaHpColl
import Derived.Test.YtdkfaepmgennjaaHpISort
import Derived.Test.YtdkfaepmgennjaaShelf
namespace Go.Proofs.Ytdkfaepmgennjaa
open Go.RowKit
open H (IT)
set_option linter.unusedSimpArgs false
set_option maxRecDepth 100000
theorem Collect_any (A : Option Addr) (c m : Nat) (l : List IT) (c0 : Nat) (w : World) (hc : w.cell? ⟨c0, 0, none⟩ = some (.slice A m c)) (hm : l.length = m) (hl : SpIn w w.heap.size A c l) (hn : m ≤ 1000) :
    Calls Try.prog 73 #[.func (.func 75) #[] #[.pointer (some ⟨c0, 0, none⟩)]] w (OwnPost l w) := by
  have HC := Lib.hid (AppendSeq_any A c m l c0 w hc hm hl hn)
  clear hc hm hl
  go_enter Try.func73, Try.ntmps73
  go_wp2_with fail
  refine HC.out.mono ?_
  rintro e w1 ⟨v, rfl, hown, hb⟩
  have HO := Lib.hid hown
  clear hown
  go_wp2_with fail
  go_ret
  exact own_post HO.out hb
set_option maxHeartbeats 1000000 in
theorem Pdq_any (nf : Nat) (ord : Int → Int → Bool) (ho : OrdN nf ord) (g gd n cap : Nat) (k : Int) (s lst mp : Value) (nx : Int) (d : List IT) (w : World) (hg : w.heap[g]? = some (rowQ s nx (.func (.func nf) #[] #[]) false lst mp)) (hne : gd ≠ g)
    (hl : OwnIt w (.slice (some ⟨gd, 0, none⟩) n cap) d) (hn : d.length = n) (h12 : n ≤ 12) :
    Calls Try.prog 77 #[(.slice (some ⟨gd, 0, none⟩) n cap), .int .i64 0, .int .i64 n, .int .i64 k, (.func (.func 39) #[.pointer (some ⟨g, 2, none⟩)] #[])] w fun e w' => e = .returned (.tuple #[]) ∧ IS w g gd n cap (rowQ s nx (.func (.func nf) #[] #[]) false lst mp) w' (H.isort ord n d) := by
  have HI := Lib.hid (ISort_any nf ord ho g gd n cap s lst mp nx d w hg hne hl hn h12)
  have k12 : (n : Int) ≤ 12 := by omega
  clear ho hg hl hn
  go_enter Try.func77, Try.ntmps77
  go_wp2_with fail
  go_loopw [1, 2] (fun a b wr => a = .int .i64 0 ∧ b = .int .i64 (n : Int) ∧ wr = w) (fun _ _ _ => 0)
  case atStart => exact ⟨rfl, rfl, rfl⟩
  case round =>
    obtain ⟨rfl, rfl, rfl⟩ := hrel
    go_wp2_with fail
    refine HI.out.mono ?_
    rintro e w1 ⟨rfl, h1⟩
    have H1 := Lib.hid h1
    clear HI h1
    go_wp2_with fail
    refine bodyPost_ret (results_none rfl _ _ _) rfl ?_
    exact ⟨rfl, H1.out⟩
set_option maxHeartbeats 1000000 in
theorem SortFunc_any (nf : Nat) (ord : Int → Int → Bool) (ho : OrdN nf ord) (g gd n cap : Nat) (s lst mp : Value) (nx : Int) (d : List IT) (w : World) (hg : w.heap[g]? = some (rowQ s nx (.func (.func nf) #[] #[]) false lst mp)) (hne : gd ≠ g)
    (hl : OwnIt w (.slice (some ⟨gd, 0, none⟩) n cap) d) (hn : d.length = n) (h12 : n ≤ 12) :
    Calls Try.prog 74 #[(.slice (some ⟨gd, 0, none⟩) n cap), (.func (.func 39) #[.pointer (some ⟨g, 2, none⟩)] #[])] w fun e w' => e = .returned (.tuple #[]) ∧ IS w g gd n cap (rowQ s nx (.func (.func nf) #[] #[]) false lst mp) w' (H.isort ord n d) := by
  have HP := Lib.hid (fun k => Pdq_any nf ord ho g gd n cap k s lst mp nx d w hg hne hl hn h12)
  have HB := Lib.hid (fun (x : Int) h0 h1 => Try.bits_Len x w h0 h1)
  have w1 : IntKind.u64.wrap (n : Int) = n := by simp [IntKind.wrap, IntKind.bits, IntKind.signed]; omega
  have HB1 := Lib.hid (HB.out (n : Int) (by omega) (by omega))
  clear ho hg hl hn HB
  go_enter Try.func74, Try.ntmps74
  go_wp2_with fail
  refine HB1.out.mono ?_
  rintro e w' ⟨rfl, rfl⟩
  go_wp2_with fail
  refine (HP.out _).mono ?_
  rintro e w2 ⟨rfl, h1⟩
  have H1 := Lib.hid h1
  clear HP h1
  go_wp2_with fail
  go_end0
  exact ⟨rfl, H1.out⟩
theorem OwnIt.ofSp {w : World} {base : Nat} {v : Value} {l : List IT} (h : OwnSp w base v l) : OwnIt w v l := by
  rcases h with ⟨h1, h2 | ⟨g, cap, cur, e, hb, rest⟩⟩
  · exact ⟨h1, .inl h2⟩
  · exact ⟨h1, .inr ⟨g, cap, cur, e, Nat.zero_le _, rest⟩⟩
theorem OwnIt.sp {w : World} {gl cap m : Nat} {l : List IT} (h : OwnIt w (.slice (some ⟨gl, 0, none⟩) m cap) l) : SpIn w w.heap.size (some ⟨gl, 0, none⟩) cap l := by
  rcases h.some_ with ⟨h0, _⟩ | ⟨g', c', h0, h1, h2, h3⟩
  · cases h0
  · injection h0 with e1 e2 e3
    subst e3
    refine ⟨h1, h2, fun e => (by cases e), fun ad e k hk => ?_, fun s _ => ⟨trivial, trivial⟩⟩
    injection e with e
    subst e
    have e : ∀ j, (⟨gl, 0, none⟩ : Addr).add j = ⟨gl, j, none⟩ := fun j => by unfold Addr.add; split <;> simp_all
    rw [e, e]
    exact h.at_ hk
/-- What a sort of a queue's values answers. -/
def SortP (d : List IT) (m : Nat) (w : World) (e : Ending) (w' : World) : Prop := ∃ gd cap, e = .returned (.slice (some ⟨gd, 0, none⟩) m cap) ∧ OwnIt w' (.slice (some ⟨gd, 0, none⟩) m cap) d ∧ w.heap.size ≤ gd ∧ Below w.heap.size w w'
set_option maxHeartbeats 1000000 in
theorem SortedFunc_any (nf : Nat) (ord : Int → Int → Bool) (ho : OrdN nf ord) (g : Nat) (s lst mp : Value) (nx : Int) (A : Option Addr) (c m : Nat) (l : List IT) (c0 : Nat) (w : World) (hg : w.heap[g]? = some (rowQ s nx (.func (.func nf) #[] #[]) false lst mp))
    (hc : w.cell? ⟨c0, 0, none⟩ = some (.slice A m c)) (hm : l.length = m) (hl : SpIn w w.heap.size A c l) (h0 : 0 < m) (h12 : m ≤ 12) :
    Calls Try.prog 66 #[.func (.func 75) #[] #[.pointer (some ⟨c0, 0, none⟩)], (.func (.func 39) #[.pointer (some ⟨g, 2, none⟩)] #[])] w (SortP (H.isort ord m l) m w) := by
  have HC := Lib.hid (Collect_any A c m l c0 w hc hm hl (by omega))
  have HO := Lib.hid ho
  have HG := Lib.hid hg
  have HM := Lib.hid hm
  clear hc hl ho hg hm
  go_enter Try.func66, Try.ntmps66
  go_wp2_with fail
  refine HC.out.mono ?_
  rintro e w1 ⟨v, rfl, hown, hb⟩
  obtain ⟨gd, cap, hv⟩ : ∃ gd cap, v = .slice (some ⟨gd, 0, none⟩) m cap := by
    rcases (OwnIt.ofSp hown).some_ with ⟨_, e⟩ | ⟨gd, cap, e, -⟩
    · have := HM.out; rw [e] at this; simp at this; omega
    · exact ⟨gd, cap, by rw [e, HM.out]⟩
  subst hv
  have hgd : w.heap.size ≤ gd := (World.ownsRow.lt hown gd rfl).1
  have hgl : g < w.heap.size := (Array.getElem?_eq_some_iff.1 HG.out).1
  have HS := Lib.hid (SortFunc_any nf ord HO.out g gd m cap s lst mp nx l w1 ((hb.block g hgl).trans HG.out) (by omega) (OwnIt.ofSp hown) HM.out h12)
  have HB := Lib.hid hb
  have HGD := Lib.hid hgd
  clear HC hown hb hgd hgl
  go_wp2_with fail
  refine HS.out.mono ?_
  rintro e w2 ⟨rfl, hI⟩
  have HI := Lib.hid hI
  clear HS hI
  go_wp2_with fail
  go_ret
  exact ⟨gd, cap, rfl, HI.out.own, HGD.out, HB.out.grown HI.out.gr HB.out.size (fun k e => by injection e with e; have := HGD.out; omega)⟩
theorem Values_any (A : Option Addr) (m c : Nat) (w : World) : Calls Try.prog 67 #[.slice A m c] w fun e w' => e = .returned (.func (.func 75) #[] #[.pointer (some ⟨w.heap.size, 0, none⟩)]) ∧ w' = w.alloc (.cells #[.slice A m c] 22) := by
  have hmf : ∀ (fn : Fn) (first cap : Array Value) (w : World), (Instr.makeFunc fn first cap).run Try.prog w = .ok (.func fn first cap) w := fun _ _ _ _ => rfl
  go_enter Try.func67, Try.ntmps67
  go_wp2_with fail
  go_ret
  exact ⟨rfl, rfl⟩
set_option maxHeartbeats 1000000 in
theorem sorted_any (nf : Nat) (ord : Int → Int → Bool) (ho : OrdN nf ord) (g gm gl cap m N : Nat) (s : Value) (nx : Int) (l : List IT) (w : World) (hq : QAt w g gm nf s nx (.slice (some ⟨gl, 0, none⟩) m cap) N l) (hm : l.length = m) (h0 : 0 < m) (h12 : m ≤ 12) :
    Calls Try.prog 49 #[.pointer (some ⟨g, 2, none⟩)] w (SortP (H.isort ord m l) m w) := by
  have hmf : ∀ (fn : Fn) (first cap : Array Value) (w : World), (Instr.makeFunc fn first cap).run Try.prog w = .ok (.func fn first cap) w := fun _ _ _ _ => rfl
  have c4 : w.cell? ⟨g, 4, none⟩ = some (.slice (some ⟨gl, 0, none⟩) m cap) := by rw [cell_of_row _ _ _ _ _ _ hq.row]; rfl
  have HV := Lib.hid (Values_any (some ⟨gl, 0, none⟩) m cap w)
  have hb := below_new w (.cells #[.slice (some ⟨gl, 0, none⟩) m cap] 22)
  have hgl : g < w.heap.size := (Array.getElem?_eq_some_iff.1 hq.row).1
  have hc : (w.alloc (.cells #[.slice (some ⟨gl, 0, none⟩) m cap] 22)).cell? ⟨w.heap.size, 0, none⟩ = some (.slice (some ⟨gl, 0, none⟩) m cap) := by rw [cell_of_row _ _ _ _ _ _ (heap_alloc_new w _)]; rfl
  have HS := Lib.hid (SortedFunc_any nf ord ho g s _ _ nx (some ⟨gl, 0, none⟩) cap m l w.heap.size _ ((hb.block g hgl).trans hq.row) hc hm (hq.own.sp.on hb) h0 h12)
  have HB := Lib.hid hb
  clear hq ho hb hc hm
  go_enter Try.func49, Try.ntmps49
  go_wp2_with fail
  refine HV.out.mono ?_
  rintro e w1 ⟨rfl, rfl⟩
  go_wp2_with fail
  refine HS.out.mono ?_
  rintro e w2 ⟨gd, cap', rfl, hO, hgd, hb2⟩
  have HO2 := Lib.hid hO
  have HB2 := Lib.hid hb2
  clear HS hO hb2
  go_wp2_with fail
  go_ret
  exact ⟨gd, cap', rfl, HO2.out, by have := HB.out.size; omega, bt HB.out HB.out.size HB2.out⟩
end Go.Proofs.Ytdkfaepmgennjaa
