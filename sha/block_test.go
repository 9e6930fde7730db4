package sha_test

import (
	"bytes"
	"crypto/sha256"
	"encoding"
	"encoding/binary"
	"math/big"
	"math/bits"
	"math/rand"
	"testing"

	"groundling/sha"
)

// primes returns the first primes, so many of them.
func primes(many int) []int64 {
	var found []int64
	for n := int64(2); len(found) < many; n++ {
		if big.NewInt(n).ProbablyPrime(0) {
			found = append(found, n)
		}
	}
	return found
}

// power returns x to the power n.
func power(x *big.Int, n int64) *big.Int {
	return new(big.Int).Exp(x, big.NewInt(n), nil)
}

// rootBits returns the whole part of 2^32 times the root of p (of degree 2 or 3), bit by bit.
func rootBits(p, degree int64) *big.Int {
	limit := new(big.Int).Lsh(big.NewInt(p), uint(32*degree))
	root := new(big.Int)
	for bit := 40; bit >= 0; bit-- {
		root.SetBit(root, bit, 1)
		if power(root, degree).Cmp(limit) > 0 {
			root.SetBit(root, bit, 0)
		}
	}
	return root
}

// P3.1
func TestConstantsAndStart(t *testing.T) {
	for i, p := range primes(64) {
		if got, want := sha.Constants()[i], uint32(rootBits(p, 3).Uint64()); got != want {
			t.Errorf("constant %d: %x, want %x", i, got, want)
		}
	}
	for i, p := range primes(8) {
		if got, want := sha.Start()[i], uint32(rootBits(p, 2).Uint64()); got != want {
			t.Errorf("word %d of the start: %x, want %x", i, got, want)
		}
	}
	if got := sha.Constants()[0]; got != 0x428a2f98 {
		t.Errorf("the first constant is %x", got)
	}
	if got := sha.Start()[0]; got != 0x6a09e667 {
		t.Errorf("the first word of the start is %x", got)
	}
	if last := primes(64)[63]; last != 311 {
		t.Errorf("the last prime is %d", last)
	}
}

// checkRoot checks that word, below the whole part of the root of p (of degree 2 or 3), is its first bits.
func checkRoot(t *testing.T, word uint32, p, degree int64) {
	whole := int64(0)
	for power(big.NewInt(whole+1), degree).Cmp(big.NewInt(p)) <= 0 {
		whole++
	}
	m := big.NewInt(whole<<32 | int64(word))
	limit := new(big.Int).Lsh(big.NewInt(p), uint(32*degree))
	if power(m, degree).Cmp(limit) > 0 {
		t.Errorf("%x is above the root of %d", word, p)
	}
	if power(m.Add(m, big.NewInt(1)), degree).Cmp(limit) <= 0 {
		t.Errorf("%x is below the root of %d", word, p)
	}
}

// P3.6
func TestRoots(t *testing.T) {
	for i, p := range primes(64) {
		checkRoot(t, sha.Constants()[i], p, 3)
	}
	for i, p := range primes(8) {
		checkRoot(t, sha.Start()[i], p, 2)
	}
}

// P3.7: what is done to results does not show in later ones.
func TestConstantsAreCopies(t *testing.T) {
	constants, start := sha.Constants(), sha.Start()
	clear(constants[:])
	clear(start[:])
	if sha.Constants()[0] != 0x428a2f98 || sha.Start()[0] != 0x6a09e667 {
		t.Error("Constants or Start was changed")
	}
}

// blockOf returns the state into which Go's own library takes the block: a hash of its is given the state as the eight words after the mark of its written form.
func blockOf(t *testing.T, state [8]uint32, b [64]byte) [8]uint32 {
	t.Helper()
	h := sha256.New()
	form, err := h.(encoding.BinaryMarshaler).MarshalBinary()
	if err != nil {
		t.Fatal(err)
	}
	const mark = 4
	for i, x := range state {
		binary.BigEndian.PutUint32(form[mark+4*i:], x)
	}
	if err := h.(encoding.BinaryUnmarshaler).UnmarshalBinary(form); err != nil {
		t.Fatal(err)
	}
	h.Write(b[:])
	if form, err = h.(encoding.BinaryMarshaler).MarshalBinary(); err != nil {
		t.Fatal(err)
	}
	var after [8]uint32
	for i := range after {
		after[i] = binary.BigEndian.Uint32(form[mark+4*i:])
	}
	return after
}

// statesAndBlocks calls f for states and blocks: all 0, all 1, with a single 1, and others.
func statesAndBlocks(f func(state [8]uint32, b [64]byte)) {
	var zero [8]uint32
	var none [64]byte
	f(zero, none)
	f(sha.Start(), none)
	var most [8]uint32
	for i := range most {
		most[i] = 1<<32 - 1
	}
	f(most, [64]byte(bytes.Repeat([]byte{255}, 64)))
	f(most, none)
	for at := range 256 {
		state := zero
		state[at/32] = 1 << (at % 32)
		f(state, none)
	}
	for at := range 512 {
		b := none
		b[at/8] = 1 << (at % 8)
		f(zero, b)
	}
	random := rand.New(rand.NewSource(3))
	for range 500 {
		var state [8]uint32
		var b [64]byte
		for i := range state {
			state[i] = random.Uint32()
		}
		random.Read(b[:])
		f(state, b)
	}
}

// P3.1
func TestBlock(t *testing.T) {
	statesAndBlocks(func(state [8]uint32, b [64]byte) {
		if got, want := sha.Block(state, b), blockOf(t, state, b); got != want {
			t.Fatalf("Block of %x, %x: %x, want %x", state, b, got, want)
		}
	})
}

// P3.1: the block of abc with its padding, after FIPS 180-4's first example.
func TestBlockOfExample(t *testing.T) {
	b := [64]byte{0: 'a', 1: 'b', 2: 'c', 3: 128, 63: 24}
	want := [8]uint32{0xba7816bf, 0x8f01cfea, 0x414140de, 0x5dae2223, 0xb00361a3, 0x96177a9c, 0xb410ff61, 0xf20015ad}
	if got := sha.Block(sha.Start(), b); got != want {
		t.Errorf("Block of abc: %x", got)
	}
}

// rot returns x rotated to the right.
func rot(x uint32, n int) uint32 { return bits.RotateLeft32(x, -n) }

// undo returns the state before the 64 steps for the block after which it is the given one.
func undo(state [8]uint32, block [64]byte) [8]uint32 {
	var w [64]uint32
	for t := range w {
		if t < 16 {
			w[t] = binary.BigEndian.Uint32(block[4*t:])
			continue
		}
		x, y := w[t-15], w[t-2]
		w[t] = w[t-16] + w[t-7] + (rot(x, 7) ^ rot(x, 18) ^ x>>3) + (rot(y, 17) ^ rot(y, 19) ^ y>>10)
	}
	for t := 63; t >= 0; t-- {
		// All but d and h of the state before are in the state after.
		a, b, c, e, f, g := state[1], state[2], state[3], state[5], state[6], state[7]
		u := state[0] - (rot(a, 2) ^ rot(a, 13) ^ rot(a, 22)) - (a&b ^ a&c ^ b&c)
		h := u - (rot(e, 6) ^ rot(e, 11) ^ rot(e, 25)) - (e&f ^ ^e&g) - sha.Constants()[t] - w[t]
		state = [8]uint32{a, b, c, state[4] - u, e, f, g, h}
	}
	return state
}

// P3.7: the state before comes back from that after the steps, so that no two states have the same.
func TestBlockIsUndone(t *testing.T) {
	statesAndBlocks(func(state [8]uint32, b [64]byte) {
		given, block := state, b
		after := sha.Block(state, b)
		if state != given || b != block {
			t.Fatalf("Block changed its arguments %x, %x", given, block)
		}
		for i := range after {
			after[i] -= state[i]
		}
		if got := undo(after, b); got != state {
			t.Fatalf("Block of %x, %x, undone: %x", state, b, got)
		}
	})
}
