/- The mathematics of package sha: words, blocks, padding and digests, as numbers and lists of bytes. -/
import Derived.WalkKit
import Derived.Lib.Hide
namespace Go.Proofs.YtgpgnfdbjljljaaDoor
namespace S
def M : Nat := 4294967296
def rot (x n : Nat) : Nat := x / 2 ^ n ||| x * 2 ^ (32 - n) % 4294967296
def shr (x n : Nat) : Nat := x / 2 ^ n
def s0 (x : Nat) : Nat := (rot x 7 ^^^ rot x 18) ^^^ shr x 3
def s1 (x : Nat) : Nat := (rot x 17 ^^^ rot x 19) ^^^ shr x 10
def S0 (x : Nat) : Nat := (rot x 2 ^^^ rot x 13) ^^^ rot x 22
def S1 (x : Nat) : Nat := (rot x 6 ^^^ rot x 11) ^^^ rot x 25
def ch (x y z : Nat) : Nat := (x &&& y) ||| ((4294967295 - x) &&& z)
def maj (x y z : Nat) : Nat := ((x &&& y) ||| (x &&& z)) ||| (y &&& z)
/-- Eight words. -/
structure St where
  (a b c d e f g h : Nat)
def St.ok (s : St) : Prop := (s.a < 4294967296 ∧ s.b < 4294967296 ∧ s.c < 4294967296 ∧ s.d < 4294967296) ∧ s.e < 4294967296 ∧ s.f < 4294967296 ∧ s.g < 4294967296 ∧ s.h < 4294967296
def St.list (s : St) : List Nat := [s.a, s.b, s.c, s.d, s.e, s.f, s.g, s.h]
/-- What a step adds. -/
def uV (s : St) (x : Nat) : Nat := (s.h + S1 s.e + ch s.e s.f s.g + x) % 4294967296
def vV (s : St) : Nat := (S0 s.a + maj s.a s.b s.c) % 4294967296
def step (s : St) (x : Nat) : St := ⟨(uV s x + vV s) % 4294967296, s.a, s.b, s.c, (s.d + uV s x) % 4294967296, s.e, s.f, s.g⟩
def add (s t : St) : St := ⟨(s.a + t.a) % 4294967296, (s.b + t.b) % 4294967296, (s.c + t.c) % 4294967296, (s.d + t.d) % 4294967296, (s.e + t.e) % 4294967296, (s.f + t.f) % 4294967296, (s.g + t.g) % 4294967296, (s.h + t.h) % 4294967296⟩
def wordOf (p q r s : Nat) : Nat := p * 16777216 + q * 65536 + r * 256 + s
/-- The byte at a place. -/
def at_ (b : List UInt8) (i : Nat) : Nat := (b.getD i 0).toNat
/-- The next word of a block's schedule. -/
def next (b : List UInt8) (l : List Nat) (t : Nat) : Nat :=
  if t < 16 then wordOf (at_ b (4 * t)) (at_ b (4 * t + 1)) (at_ b (4 * t + 2)) (at_ b (4 * t + 3))
  else (s1 (l.getD (t - 2) 0) + l.getD (t - 7) 0 + s0 (l.getD (t - 15) 0) + l.getD (t - 16) 0) % 4294967296
/-- The first words of a block's schedule. -/
def ws (b : List UInt8) : Nat → List Nat
  | 0 => []
  | t + 1 => ws b t ++ [next b (ws b t) t]
/-- The steps with these words. -/
def run (s : St) : List Nat → List Nat → St
  | k :: ks, w :: l => run (step s ((k + w) % 4294967296)) ks l
  | _, _ => s
def K : List Nat := [1116352408, 1899447441, 3049323471, 3921009573, 961987163, 1508970993, 2453635748, 2870763221,
  3624381080, 310598401, 607225278, 1426881987, 1925078388, 2162078206, 2614888103, 3248222580,
  3835390401, 4022224774, 264347078, 604807628, 770255983, 1249150122, 1555081692, 1996064986,
  2554220882, 2821834349, 2952996808, 3210313671, 3336571891, 3584528711, 113926993, 338241895,
  666307205, 773529912, 1294757372, 1396182291, 1695183700, 1986661051, 2177026350, 2456956037,
  2730485921, 2820302411, 3259730800, 3345764771, 3516065817, 3600352804, 4094571909, 275423344,
  430227734, 506948616, 659060556, 883997877, 958139571, 1322822218, 1537002063, 1747873779,
  1955562222, 2024104815, 2227730452, 2361852424, 2428436474, 2756734187, 3204031479, 3329325298]
def start : St := ⟨1779033703, 3144134277, 1013904242, 2773480762, 1359893119, 2600822924, 528734635, 1541459225⟩
def block (s : St) (b : List UInt8) : St := add (run s K (ws b 64)) s
/-- The state after some blocks of bytes. -/
def after (l : List UInt8) : Nat → St
  | 0 => start
  | n + 1 => block (after l n) ((l.drop (64 * n)).take 64)
/-- So many zeros of a padding. -/
def zeros (n : Nat) : Nat := (64 - (n + 9) % 64) % 64
/-- The bytes of a number, the highest one first. -/
def be (N : Nat) : Nat → List UInt8
  | 0 => []
  | k + 1 => UInt8.ofNat (N / 2 ^ (8 * k)) :: be N k
def pad (n : Nat) : List UInt8 := 128 :: (List.replicate (zeros n) 0 ++ be (n * 8) 8)
def bytesOf (s : St) : List UInt8 := s.list.flatMap fun x => be x 4
def digest (l : List UInt8) : List UInt8 := bytesOf (after (l ++ pad l.length) ((l ++ pad l.length).length / 64))
theorem digest_abc : digest [97, 98, 99] = [0xba, 0x78, 0x16, 0xbf, 0x8f, 0x01, 0xcf, 0xea, 0x41, 0x41, 0x40, 0xde, 0x5d, 0xae, 0x22, 0x23, 0xb0, 0x03, 0x61, 0xa3, 0x96, 0x17, 0x7a, 0x9c, 0xb4, 0x10, 0xff, 0x61, 0xf2, 0x00, 0x15, 0xad] := by decide +kernel
theorem digest_nil : digest [] = [0xe3, 0xb0, 0xc4, 0x42, 0x98, 0xfc, 0x1c, 0x14, 0x9a, 0xfb, 0xf4, 0xc8, 0x99, 0x6f, 0xb9, 0x24, 0x27, 0xae, 0x41, 0xe4, 0x64, 0x9b, 0x93, 0x4c, 0xa4, 0x95, 0x99, 0x1b, 0x78, 0x52, 0xb8, 0x55] := by decide +kernel
end S
end Go.Proofs.YtgpgnfdbjljljaaDoor
