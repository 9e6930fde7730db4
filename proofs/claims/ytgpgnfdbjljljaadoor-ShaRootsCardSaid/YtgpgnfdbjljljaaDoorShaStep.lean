/- Contracts of package sha: wordOf, bytesOf, step. -/
import Derived.Test.YtgpgnfdbjljljaaDoorShaBits
import Derived.Deep.QuietTactic
import Derived.BigQuiet
import Derived.OwnWalk
namespace Go.Proofs.YtgpgnfdbjljljaaDoor
open Go.RowKit
namespace S
def vals (s : St) : Array Value := #[.int .u32 s.a, .int .u32 s.b, .int .u32 s.c, .int .u32 s.d, .int .u32 s.e, .int .u32 s.f, .int .u32 s.g, .int .u32 s.h]
theorem or_add (i x y : Nat) (hx : x % 2 ^ i = 0) (hy : y < 2 ^ i) : x ||| y = x + y := nat_join i x y hx hy
theorem word_eq (p q r s : Nat) (hp : p < 256) (hq : q < 256) (hr : r < 256) (hs : s < 256) :
    bits .or .u32 (bits .or .u32 (bits .or .u32 ((p : Int) * 16777216) ((q : Int) * 65536)) ((r : Int) * 256)) (s : Int) = (wordOf p q r s : Nat) := by
  have e1 : (p : Int) * 16777216 = ((p * 16777216 : Nat) : Int) := by omega
  have e2 : (q : Int) * 65536 = ((q * 65536 : Nat) : Int) := by omega
  have e3 : (r : Int) * 256 = ((r * 256 : Nat) : Int) := by omega
  rw [e1, e2, e3, u32_or_nat _ _ (by omega) (by omega), or_add 24 _ _ (by omega) (by omega), u32_or_nat _ _ (by omega) (by omega), or_add 16 _ _ (by omega) (by omega), u32_or_nat _ _ (by omega) (by omega), or_add 8 _ _ (by omega) (by omega)]
  rfl
theorem ret_agg {a b : Array Value} (h : a = b) : Ending.returned (.agg a) = .returned (.agg b) := by rw [h]
theorem bytes_eq (x : Nat) : (#[.int .u8 ((x : Int) / 16777216), .int .u8 ((x : Int) / 65536 % 256), .int .u8 ((x : Int) / 256 % 256), .int .u8 ((x : Int) % 256)] : Array Value) = #[.int .u8 (x / 16777216 : Nat), .int .u8 (x / 65536 % 256 : Nat), .int .u8 (x / 256 % 256 : Nat), .int .u8 (x % 256 : Nat)] := by
  simp
theorem step_eq (a b c d e f g h x : Nat) : (#[.int .u32 (((h : Int) + S1 e + ch e f g + x + (S0 a + maj a b c)) % 4294967296), .int .u32 a, .int .u32 b, .int .u32 c, .int .u32 (((d : Int) + (h + S1 e + ch e f g + x)) % 4294967296), .int .u32 e, .int .u32 f, .int .u32 g] : Array Value) = vals (step ⟨a, b, c, d, e, f, g, h⟩ x) := by
  have e1 : (((h : Int) + S1 e + ch e f g + x + (S0 a + maj a b c)) % 4294967296) = (((uV ⟨a, b, c, d, e, f, g, h⟩ x + vV ⟨a, b, c, d, e, f, g, h⟩) % 4294967296 : Nat) : Int) := by
    simp only [uV, vV]; omega
  have e2 : (((d : Int) + (h + S1 e + ch e f g + x)) % 4294967296) = (((d + uV ⟨a, b, c, d, e, f, g, h⟩ x) % 4294967296 : Nat) : Int) := by
    simp only [uV]; omega
  rw [e1, e2]
  rfl
end S
set_option maxHeartbeats 400000 in
theorem wordOf_any (p q r s : Nat) (hp : p < 256) (hq : q < 256) (hr : r < 256) (hs : s < 256) (w : World) :
    Calls Tryd.prog 75 #[.agg #[.int .u8 p, .int .u8 q, .int .u8 r, .int .u8 s]] w fun e w' => e = .returned (.int .u32 (S.wordOf p q r s : Nat)) ∧ Below w.heap.size w w' := by
  go_enter Tryd.func75, Tryd.ntmps75
  go_wp2
  go_ret
  exact ⟨S.ret_u32 (S.word_eq p q r s hp hq hr hs).symm, (Below.refl _ _).alloc (Nat.le_refl _) _⟩
set_option maxHeartbeats 400000 in
theorem bytesOf_any (x : Nat) (_hx : x < 4294967296) (w : World) :
    Calls Tryd.prog 66 #[.int .u32 x] w fun e w' => e = .returned (.agg #[.int .u8 (x / 16777216 : Nat), .int .u8 (x / 65536 % 256 : Nat), .int .u8 (x / 256 % 256 : Nat), .int .u8 (x % 256 : Nat)]) ∧ Below w.heap.size w w' := by
  go_enter Tryd.func66, Tryd.ntmps66
  go_wp2
  exact bodyPost_ret (v := .agg #[.int .u8 ((x : Int) / 16777216), .int .u8 ((x : Int) / 65536 % 256), .int .u8 ((x : Int) / 256 % 256), .int .u8 ((x : Int) % 256)]) (by simp [results, Tryd.results66, go_sem]) rfl ⟨S.ret_agg (S.bytes_eq x), (Below.refl _ _).alloc (Nat.le_refl _) _⟩
set_option maxHeartbeats 400000 in
theorem step_any (s : S.St) (hs : s.ok) (x : Nat) (_hx : x < 4294967296) (w : World) :
    Calls Tryd.prog 72 #[.agg (S.vals s), .int .u32 x] w fun e w' => e = .returned (.agg (S.vals (S.step s x))) ∧ Below w.heap.size w w' := by
  obtain ⟨a, b, c, d, e, f, g, h⟩ := s
  obtain ⟨⟨ha, hb, hc, hd⟩, he, hf, hg, hh⟩ := hs
  simp only at ha hb hc hd he hf hg hh
  unfold S.vals
  simp only
  go_enter Tryd.func72, Tryd.ntmps72
  go_wp2_with fail
  go_quiet (fail)
  go_wp2_with fail
  go_quiet (fail)
  go_wp2_with fail
  refine (bigS1_any e he _).mono ?_
  rintro _ _ ⟨rfl, rfl⟩
  go_wp2_with fail
  refine (ch_any e f g he hf hg _).mono ?_
  rintro _ _ ⟨rfl, rfl⟩
  go_wp2_with fail
  refine (bigS0_any a ha _).mono ?_
  rintro _ _ ⟨rfl, rfl⟩
  go_wp2_with fail
  refine (maj_any a b c ha hb hc _).mono ?_
  rintro _ _ ⟨rfl, rfl⟩
  go_wp2_with fail
  refine bodyPost_ret (v := .agg #[.int .u32 (((h : Int) + S.S1 e + S.ch e f g + x + (S.S0 a + S.maj a b c)) % 4294967296), .int .u32 a, .int .u32 b, .int .u32 c, .int .u32 (((d : Int) + (h + S.S1 e + S.ch e f g + x)) % 4294967296), .int .u32 e, .int .u32 f, .int .u32 g]) (by simp [results, Tryd.results72, go_sem]) rfl ⟨S.ret_agg (S.step_eq a b c d e f g h x), ?_⟩
  repeat (refine Below.setCell ?_ (by simp) _)
  exact below_drewN (((Below.refl _ _).alloc (Nat.le_refl _) _).alloc (by simp) _) _
end Go.Proofs.YtgpgnfdbjljljaaDoor
