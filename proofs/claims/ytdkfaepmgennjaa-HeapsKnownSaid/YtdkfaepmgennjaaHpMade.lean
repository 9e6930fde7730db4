/- The laws' orders, and the queue in which values are. -/
import Derived.Test.YtdkfaepmgennjaaHpAwake
import Derived.Test.YtdkfaepmgennjaaHpMath
namespace Go.Proofs.Ytdkfaepmgennjaa
open Go.RowKit Go.Maps
open H (IT)
set_option linter.unusedSimpArgs false
set_option maxRecDepth 100000
/-- The slice '.slice A n c' reads as the numbers l, and lies below block B. -/
structure NumIn (w : World) (B : Nat) (A : Option Addr) (c : Nat) (l : List Int) : Prop where
  le : l.length ≤ c
  cap : c ≤ maxLen
  none_ : A = none → l = [] ∧ c = 0
  cells : ∀ ad, A = some ad → ∀ k (h : k < l.length), ad.block < B ∧ w.cell? (ad.add k) = some (.int .i64 l[k])
theorem NumIn.at_ {w : World} {B c : Nat} {A : Option Addr} {l : List Int} (h : NumIn w B A c l) {k : Nat} (hk : k < l.length) : ∃ ad, A = some ad ∧ ad.block < B ∧ w.cell? (ad.add k) = some (.int .i64 l[k]) := by
  cases A with
  | none => have := (h.none_ rfl).1; rw [this] at hk; exact absurd hk (Nat.not_lt_zero _)
  | some ad => exact ⟨ad, rfl, h.cells ad rfl k hk⟩
theorem addr_block (a : Addr) (n : Nat) : (a.add n).block = a.block := by unfold Addr.add; split <;> rfl
theorem NumIn.below {w w' : World} {B c : Nat} {A : Option Addr} {l : List Int} (h : NumIn w B A c l) (hb : Below B w w') : NumIn w' B A c l :=
  ⟨h.le, h.cap, h.none_, fun ad e k hk => ⟨(h.cells ad e k hk).1, by rw [hb.cell (by rw [addr_block]; exact (h.cells ad e k hk).1)]; exact (h.cells ad e k hk).2⟩⟩
def H.key (a : Int) : Int := max a 0 % 10
def H.ten (a b : Int) : Bool := decide (H.key b < H.key a)
theorem H.swo_less : H.Swo H.less := ⟨fun a b h => by unfold H.less at *; simp only [decide_eq_true_eq, decide_eq_false_iff_not] at *; omega, fun a b c h => by unfold H.less at *; simp only [decide_eq_true_eq] at *; omega⟩
theorem H.swo_ten : H.Swo H.ten := ⟨fun a b h => by unfold H.ten at *; simp only [decide_eq_true_eq, decide_eq_false_iff_not] at *; omega, fun a b c h => by unfold H.ten at *; simp only [decide_eq_true_eq] at *; omega⟩
theorem tens_any : OrdN 36 H.ten := ⟨.inr rfl, fun a b w => by
  have HB : Hid (H.ten a b = decide (max b 0 % 10 < max a 0 % 10)) := Lib.hid rfl
  go_enter Try.func36, Try.ntmps36
  go_wp2_with fail
  go_ret
  exact ⟨by rw [HB.out]; rfl, rfl⟩⟩
/-- The order with a number. -/
theorem order_any (b : Nat) (hb : b < 256) : ∃ n ord, OrdN n ord ∧ H.Swo ord ∧ ∀ w, Calls Try.prog 12 #[.int .u8 (b : Int)] w fun e w' => e = .returned (.func (.func n) #[] #[]) ∧ w = w' := by
  by_cases h : b % 2 = 1
  · refine ⟨_, _, tens_any, H.swo_ten, fun w => ?_⟩
    have h1 : (b : Int) % 2 = 1 := by omega
    go_enter Try.func12, Try.ntmps12
    go_wp2_with fail
    go_ret
    exact ⟨rfl, rfl⟩
  · refine ⟨_, _, less_any, H.swo_less, fun w => ?_⟩
    have h1 : (b : Int) % 2 = 0 := by omega
    go_enter Try.func12, Try.ntmps12
    go_wp2_with fail
    go_ret
    exact ⟨rfl, rfl⟩
/-- The first k numbers are the values. -/
structure MadeI (ord : Int → Int → Bool) (zs : List Int) (k : Nat) (L : List IT) : Prop where
  len : L.length = k
  heap : H.Heap ord L k
  all : ∀ x ∈ L, 1 ≤ x.1 ∧ x.1 ≤ k ∧ zs[(x.1 - 1).toNat]? = some x.2
theorem MadeI.start (ord : Int → Int → Bool) (zs : List Int) : MadeI ord zs 0 [] := ⟨rfl, fun i _ hi => absurd hi (Nat.not_lt_zero _), fun x hx => by cases hx⟩
theorem MadeI.next {ord : Int → Int → Bool} (ho : H.Swo ord) {zs : List Int} {k : Nat} {L : List IT} (h : MadeI ord zs k L) (hk : k < zs.length) {z : Int} (hz : zs[k] = z) : MadeI ord zs (k + 1) (H.hpush ord L ((k : Int) + 1, z)) := by
  have hl := h.len
  subst hl
  refine ⟨by rw [H.hpush_len], H.hpush_heap ho h.heap _, fun x hx => ?_⟩
  rcases (H.hpush_mem ord L _ x).1 hx with hx | rfl
  · have := h.all x hx
    exact ⟨this.1, by omega, this.2.2⟩
  · refine ⟨by simp only; omega, by simp, ?_⟩
    simp only
    rw [show ((L.length : Int) + 1 - 1).toNat = L.length by omega, List.getElem?_eq_getElem hk, hz]
set_option maxHeartbeats 1000000 in
theorem made_any (b : Nat) (n : Nat) (ord : Int → Int → Bool) (ho : OrdN n ord) (hs : H.Swo ord) (horder : ∀ w, Calls Try.prog 12 #[.int .u8 (b : Int)] w fun e w' => e = .returned (.func (.func n) #[] #[]) ∧ w = w')
    (A : Option Addr) (c m : Nat) (zs : List Int) (w : World) (hl : NumIn w w.heap.size A c zs) (hm : zs.length = m) (h300 : m ≤ 300) :
    Calls Try.prog 27 #[.int .u8 (b : Int), .slice A m c] w fun e w' => ∃ g gm v N L, e = .returned (.pointer (some ⟨g, 0, none⟩)) ∧ QB w w' g gm n ((m : Int) + 1) v N L ∧ MadeI ord zs m L ∧ N ≤ 1000000 := by
  have HO := Lib.hid (horder w)
  have HN := Lib.hid (New_any n ho.1 w)
  have HP := Lib.hid (fun g gm N v nx l va w hq hlt h1 h15 hl hN => QPush_any n ord ho g gm N v nx l va w hq hlt h1 h15 hl hN)
  have HS := Lib.hid hs
  have HL := Lib.hid hl
  have HM := Lib.hid hm
  clear horder ho hs hl hm
  have k300 : (m : Int) ≤ 300 := by omega
  go_enter Try.func27, Try.ntmps27
  go_wp2_with fail
  refine HO.out.mono ?_
  rintro e w' ⟨rfl, rfl⟩
  go_wp2_with fail
  refine HN.out.mono ?_
  rintro e w1 ⟨g, gm, rfl, hq, hb, hg, hgm⟩
  have HQ : Hid (QB w w1 g gm n 1 (.slice none 0 0) 0 []) := Lib.hid ⟨hq, hg, hgm, fun k hk => by simp [Value.ownBlock] at hk, hb⟩
  clear HN hq hb hg hgm
  have k300' : decide ((m : Int) > 300) = false := decide_eq_false (by omega)
  go_wp2_with fail
  go_loopw [6] (fun i wr => ∃ (k : Nat) (v : Value) (N : Nat) (L : List IT), k ≤ m ∧ i = .int .i64 k ∧ N ≤ 700 * k ∧ Hid (QB w wr g gm n ((k : Int) + 1) v N L) ∧ Hid (MadeI ord zs k L)) (fun i _ => m - (intOf i).toNat)
  case atStart => exact ⟨0, _, 0, [], by omega, rfl, by omega, HQ, Lib.hid (MadeI.start ord zs)⟩
  case round =>
    obtain ⟨k, v, N, L, hk, rfl, hN, hQ, hI⟩ := hrel
    by_cases hlt : k < m
    · have hkf : k < zs.length := by rw [HM.out]; exact hlt
      obtain ⟨ad, rfl, hlb, c0⟩ := (HL.out.below hQ.out.bel).at_ hkf
      obtain ⟨z, hz⟩ : ∃ z, zs[k]'hkf = z := ⟨_, rfl⟩
      rw [hz] at c0
      have hll := hI.out.len
      have HPk := Lib.hid (HP.out g gm N v ((k : Int) + 1) L z wr hQ.out.at_ (fun y hy => by have := (hI.out.all y hy).2.1; omega) (by omega) (by omega) (by omega) (by omega))
      have HI2 := Lib.hid (hI.out.next HS.out hkf hz)
      clear hz hlb
      go_wp2_with fail
      refine HPk.out.mono ?_
      rintro e w3 ⟨rfl, v', N', hN', hq3, hk3, hv3⟩
      have HQ3 := Lib.hid (hQ.out.step hq3 hk3 hv3)
      clear HPk hQ hI hq3 hk3 hv3
      go_wp2_with fail
      go_roundw
      case rel => exact ⟨k + 1, v', N', _, by omega, by go_num, by omega, HQ3, HI2⟩
      case measure => simp [intOf]; omega
    · obtain rfl : k = m := by omega
      have HF := Lib.hid hQ.out
      clear hQ
      go_wp2_with fail
      go_ret
      exact ⟨g, gm, v, N, L, rfl, HF.out, hI.out, by omega⟩
end Go.Proofs.Ytdkfaepmgennjaa
