package sha_test

import (
	"bytes"
	"crypto/sha256"
	"math/rand"
	"testing"

	"groundling/api"
	"groundling/sha"
)

// write writes b to h.
func write(t *testing.T, h *sha.Hash, b []byte) {
	t.Helper()
	if e := h.Write(b); e != api.OK {
		t.Fatalf("Write of %d bytes: %d", len(b), e)
	}
}

// copied returns a copy of h.
func copied(t *testing.T, h *sha.Hash) *sha.Hash {
	t.Helper()
	other, e := h.Copy()
	if e != api.OK || other == nil || other == h {
		t.Fatalf("Copy: %d", e)
	}
	return other
}

// checkHash checks that h has the bytes b, twice, because looking leaves it as it is.
func checkHash(t *testing.T, h *sha.Hash, b []byte) {
	t.Helper()
	for range 2 {
		if d, e := h.Sum(); d != sha256.Sum256(b) || e != api.OK {
			t.Fatalf("Sum after %d bytes: %x, %d", len(b), d, e)
		}
		if n, e := h.Len(); n != int64(len(b)) || e != api.OK {
			t.Fatalf("Len after %d bytes: %d, %d", len(b), n, e)
		}
	}
}

// P3.4
func TestHash(t *testing.T) {
	h := sha.New()
	checkHash(t, h, nil)
	write(t, h, nil)
	write(t, h, []byte{})
	checkHash(t, h, nil)
	write(t, h, []byte("ab"))
	checkHash(t, h, []byte("ab"))
	write(t, h, []byte("c"))
	checkHash(t, h, []byte("abc"))
	if d, _ := h.Sum(); sha.Hex(d) != abc {
		t.Errorf("Sum of abc: %x", d)
	}
	if other := sha.New(); other == h {
		t.Error("New returns the same hash again")
	} else {
		checkHash(t, other, nil)
	}
}

// P3.4: a hash that is looked at after each byte.
func TestSumStays(t *testing.T) {
	all := someBytes(400)
	h := sha.New()
	for n := range all {
		checkHash(t, h, all[:n])
		write(t, h, all[n:n+1])
	}
	checkHash(t, h, all)
}

// P3.4: after any number of bytes.
func TestReset(t *testing.T) {
	all := someBytes(200)
	h := sha.New()
	for n := range all {
		write(t, h, all[:n])
		if e := h.Reset(); e != api.OK {
			t.Fatalf("Reset: %d", e)
		}
		checkHash(t, h, nil)
		write(t, h, all[n:])
		checkHash(t, h, all[n:])
		h.Reset()
	}
}

// P3.4: what is done to a copy, or to that of which it is one, is not done to the other.
func TestCopy(t *testing.T) {
	all := someBytes(200)
	for n := range all {
		h := sha.New()
		write(t, h, all[:n])
		other := copied(t, h)
		checkHash(t, other, all[:n])
		write(t, other, all[n:])
		checkHash(t, h, all[:n])
		write(t, h, []byte("abc"))
		checkHash(t, other, all)
		third := copied(t, copied(t, other))
		other.Reset()
		checkHash(t, other, nil)
		checkHash(t, third, all)
		checkHash(t, h, append(bytes.Clone(all[:n]), "abc"...))
		h.Reset()
		checkHash(t, third, all)
	}
}

// P3.4: hashes that nobody returned.
func TestHashErrors(t *testing.T) {
	made := sha.New()
	write(t, made, []byte("abc"))
	struck := *made
	for i, h := range []*sha.Hash{nil, {}, new(sha.Hash), &struck} {
		if e := h.Write([]byte("abc")); e != api.ErrNil {
			t.Errorf("%d: Write: %d", i, e)
		}
		if e := h.Write(nil); e != api.ErrNil {
			t.Errorf("%d: Write of no bytes: %d", i, e)
		}
		if d, e := h.Sum(); d != [32]byte{} || e != api.ErrNil {
			t.Errorf("%d: Sum: %x, %d", i, d, e)
		}
		if n, e := h.Len(); n != 0 || e != api.ErrNil {
			t.Errorf("%d: Len: %d, %d", i, n, e)
		}
		if other, e := h.Copy(); other != nil || e != api.ErrNil {
			t.Errorf("%d: Copy: %v, %d", i, other, e)
		}
		if e := h.Reset(); e != api.ErrNil {
			t.Errorf("%d: Reset: %d", i, e)
		}
		if d, e := h.Sum(); d != [32]byte{} || e != api.ErrNil {
			t.Errorf("%d: Sum after Reset: %x, %d", i, d, e)
		}
	}
	checkHash(t, made, []byte("abc"))
}

// P3.5: two parts and three.
func TestParts(t *testing.T) {
	all := someBytes(193)
	for n := range len(all) + 1 {
		h := sha.New()
		write(t, h, all[:n])
		write(t, h, all[n:])
		checkHash(t, h, all)
	}
	ends := []int{0, 1, 55, 56, 63, 64, 65, 119, 120, 127, 128, 129, 192, 193}
	for i, first := range ends {
		for _, second := range ends[i:] {
			h := sha.New()
			write(t, h, all[:first])
			write(t, h, all[first:second])
			write(t, h, all[second:])
			checkHash(t, h, all)
		}
	}
}

// P3.5: many parts, of one size or of any.
func TestManyParts(t *testing.T) {
	all := someBytes(1000)
	random := rand.New(rand.NewSource(5))
	sizes := []func() int{func() int { return random.Intn(10) }, func() int { return random.Intn(200) }}
	for n := 1; n < 140; n++ {
		sizes = append(sizes, func() int { return n })
	}
	for _, size := range sizes {
		h := sha.New()
		for rest := all; len(rest) > 0; {
			n := min(size(), len(rest))
			write(t, h, rest[:n])
			rest = rest[n:]
		}
		checkHash(t, h, all)
		if d, _ := h.Sum(); d != sha.Sum(all) {
			t.Errorf("Sum of parts: %x", d)
		}
	}
}

// P3.7: what is written is neither changed nor kept.
func TestWriteMemory(t *testing.T) {
	all := someBytes(300)
	for n := range all {
		b := bytes.Clone(all)
		h := sha.New()
		write(t, h, b[:n])
		if !bytes.Equal(b, all) {
			t.Fatalf("Write of %d bytes changed them", n)
		}
		clear(b)
		checkHash(t, h, all[:n])
	}
}
