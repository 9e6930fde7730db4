package hmac_test

import (
	"bytes"
	"math/rand"
	"slices"
	"testing"

	"groundling/hmac"
)

// checkEqual checks Equal of a and b, in both orders.
func checkEqual(t *testing.T, a, b []byte) {
	t.Helper()
	for _, order := range [][2][]byte{{a, b}, {b, a}} {
		same, looked := hmac.Equal(order[0], order[1])
		if same != bytes.Equal(a, b) || looked != max(len(a), len(b)) {
			t.Fatalf("Equal of %v and %v: %t, %d", order[0], order[1], same, looked)
		}
	}
}

// P4.2
func TestEqual(t *testing.T) {
	for _, c := range []struct {
		a, b   string
		same   bool
		looked int
	}{
		{"abc", "abd", false, 3},
		{"abc", "ab", false, 3},
		{"ab", "abc", false, 3},
		{"abc", "abc", true, 3},
		{"abc", "bbc", false, 3},
		{"abc", "", false, 3},
		{"", "", true, 0},
		{"", "\x00", false, 1},
		{"a", "a\x00", false, 2},
		{"a\x00\x00", "a", false, 3},
	} {
		if same, looked := hmac.Equal([]byte(c.a), []byte(c.b)); same != c.same || looked != c.looked {
			t.Errorf("Equal of %q and %q: %t, %d", c.a, c.b, same, looked)
		}
	}
	if same, looked := hmac.Equal(nil, []byte{}); !same || looked != 0 {
		t.Errorf("Equal of nil and of no bytes: %t, %d", same, looked)
	}
	checkEqual(t, nil, []byte("abc"))
}

// P4.2 and P4.6: of all short strings of a few bytes.
func TestEqualOfShort(t *testing.T) {
	short := [][]byte{nil}
	for at := 0; len(short[at]) < 4; at++ {
		for _, c := range []byte{0, 1, 2, 128} {
			short = append(short, append(slices.Clone(short[at]), c))
		}
	}
	for _, a := range short {
		for _, b := range short {
			checkEqual(t, a, b)
		}
	}
}

// P4.2 and P4.6: each two bytes, and each single bit at each place.
func TestEqualOfBits(t *testing.T) {
	for c := range 256 {
		for d := range 256 {
			checkEqual(t, []byte{byte(c)}, []byte{byte(d)})
		}
	}
	for n := range 70 {
		a := someBytes(n)
		for bit := range 8 * n {
			b := someBytes(n)
			b[bit/8] ^= 1 << (bit % 8)
			checkEqual(t, a, b)
		}
	}
}

// P4.2: bytes that differ in the same bits do not hide each other.
func TestEqualOfTwoBits(t *testing.T) {
	for i := range 8 {
		for j := range i {
			b := make([]byte, 8)
			b[i], b[j] = 16, 16
			checkEqual(t, b, make([]byte, 8))
			b[i] = 240
			checkEqual(t, b, make([]byte, 8))
		}
	}
	checkEqual(t, []byte{1}, []byte{0, 0})
	checkEqual(t, []byte{3}, []byte{0, 3})
}

// P4.2 and P4.6: strings of which one begins with the other; lengths that differ in high bits alone; the rest has bytes 0, or others.
func TestEqualOfLengths(t *testing.T) {
	lengths := []int{0, 1, 2, 3, 7, 8, 31, 32, 33, 64, 255, 256, 257, 288, 511, 512, 65535, 65536, 65568, 1 << 17}
	for _, c := range []byte{0, 1, 255} {
		for _, n := range lengths {
			for _, m := range lengths {
				checkEqual(t, bytes.Repeat([]byte{c}, n), bytes.Repeat([]byte{c}, m))
			}
		}
	}
}

// P4.6: how many bytes are looked at is the same for all strings of two lengths.
func TestEqualLooksAtAll(t *testing.T) {
	random := rand.New(rand.NewSource(4))
	for n := range 40 {
		for m := range 40 {
			a, b := make([]byte, n), make([]byte, m)
			for range 3 {
				checkEqual(t, a, b)
				random.Read(a)
				random.Read(b)
			}
			checkEqual(t, a, slices.Clone(a))
			copy(b, a)
			checkEqual(t, a, b)
		}
	}
}
