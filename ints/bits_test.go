package ints_test

import (
	"math"
	"math/big"
	"testing"

	"groundling/api"
	"groundling/ints"
)

// badBits are the numbers of bits that no number has.
var badBits = []int{math.MinInt, -64, -1, 0, 65, 128, 1 << 32, 1<<32 + 8, math.MaxInt}

// places are numbers of places, among them the least and the greatest one.
var places = []int{math.MinInt, math.MinInt + 1, -1 << 40, -129, -65, -64, -63, -7, -3, -2, -1, 0, 1, 2, 3, 5, 31, 62, 63, 64, 65, 129, 1 << 40, math.MaxInt - 1, math.MaxInt}

// power returns 2^k.
func power(k int) *big.Int { return new(big.Int).Lsh(big.NewInt(1), uint(k)) }

// ones returns 2^k - 1.
func ones(k int) uint64 { return new(big.Int).Sub(power(k), big.NewInt(1)).Uint64() }

// P2.3
func TestZigAndZag(t *testing.T) {
	for n, want := range map[int64]uint64{0: 0, -1: 1, 1: 2, -2: 3, 2: 4, -3: 5, 3: 6, math.MaxInt64: math.MaxUint64 - 1, math.MinInt64: math.MaxUint64, math.MinInt64 + 1: math.MaxUint64 - 2, 1 << 40: 1 << 41, -1 << 40: 1<<41 - 1} {
		if got := ints.Zig(n); got != want {
			t.Errorf("Zig of %d: %d, want %d", n, got, want)
		}
		if got := ints.Zag(want); got != n {
			t.Errorf("Zag of %d: %d, want %d", want, got, n)
		}
	}
	for n := range int64(3000) {
		if ints.Zig(n) != uint64(2*n) || ints.Zig(-n-1) != uint64(2*n+1) || ints.Zag(uint64(2*n)) != n || ints.Zag(uint64(2*n+1)) != -n-1 {
			t.Errorf("Zig or Zag of %d", n)
		}
	}
}

// P2.7
func TestZagOfZig(t *testing.T) {
	for _, n := range edges() {
		if got := ints.Zag(ints.Zig(int64(n))); got != int64(n) {
			t.Errorf("Zag of Zig of %d: %d", int64(n), got)
		}
		if got := ints.Zig(ints.Zag(n)); got != n {
			t.Errorf("Zig of Zag of %d: %d", n, got)
		}
	}
}

// fit is Fit, as the chapter defines it.
func fit(n int64, bits int, signed bool) (uint64, api.Errno) {
	low, high := big.NewInt(0), power(bits)
	if signed {
		high = power(bits - 1)
		low.Neg(high)
	}
	written := big.NewInt(n)
	if written.Cmp(low) < 0 || written.Cmp(high) >= 0 {
		return 0, api.ErrRange
	}
	if n < 0 {
		written.Add(written, power(bits))
	}
	return written.Uint64(), api.OK
}

// widen is Widen, as the chapter defines it.
func widen(n uint64, bits int, signed bool) (int64, api.Errno) {
	read := new(big.Int).SetUint64(n)
	if read.Cmp(power(bits)) >= 0 {
		return 0, api.ErrRange
	}
	if signed && read.Cmp(power(bits-1)) >= 0 {
		read.Sub(read, power(bits))
	}
	if !read.IsInt64() {
		return 0, api.ErrRange
	}
	return read.Int64(), api.OK
}

// P2.4
func TestFit(t *testing.T) {
	for _, x := range []struct {
		n      int64
		bits   int
		signed bool
		want   uint64
		e      api.Errno
	}{
		{-1, 8, true, 255, api.OK},
		{127, 8, true, 127, api.OK},
		{-128, 8, true, 128, api.OK},
		{128, 8, true, 0, api.ErrRange},
		{-129, 8, true, 0, api.ErrRange},
		{255, 8, false, 255, api.OK},
		{256, 8, false, 0, api.ErrRange},
		{-1, 8, false, 0, api.ErrRange},
		{0, 1, true, 0, api.OK},
		{-1, 1, true, 1, api.OK},
		{1, 1, true, 0, api.ErrRange},
		{1, 1, false, 1, api.OK},
		{math.MinInt64, 64, true, 1 << 63, api.OK},
		{math.MaxInt64, 64, true, math.MaxInt64, api.OK},
		{math.MaxInt64, 64, false, math.MaxInt64, api.OK},
		{-1, 64, false, 0, api.ErrRange},
		{math.MinInt64, 64, false, 0, api.ErrRange},
		{math.MaxInt64, 63, false, math.MaxInt64, api.OK},
		{math.MinInt64, 63, false, 0, api.ErrRange},
		{math.MaxInt64, 63, true, 0, api.ErrRange},
		{-1 << 62, 63, true, 1 << 62, api.OK},
	} {
		if got, e := ints.Fit(x.n, x.bits, x.signed); got != x.want || e != x.e {
			t.Errorf("Fit of %d in %d, %v: %d, %d", x.n, x.bits, x.signed, got, e)
		}
	}
}

// P2.4
func TestWiden(t *testing.T) {
	for _, x := range []struct {
		n      uint64
		bits   int
		signed bool
		want   int64
		e      api.Errno
	}{
		{255, 8, true, -1, api.OK},
		{255, 8, false, 255, api.OK},
		{256, 8, true, 0, api.ErrRange},
		{256, 8, false, 0, api.ErrRange},
		{128, 8, true, -128, api.OK},
		{127, 8, true, 127, api.OK},
		{1, 1, true, -1, api.OK},
		{1, 1, false, 1, api.OK},
		{math.MaxUint64, 64, true, -1, api.OK},
		{1 << 63, 64, true, math.MinInt64, api.OK},
		{1 << 63, 64, false, 0, api.ErrRange},
		{math.MaxUint64, 64, false, 0, api.ErrRange},
		{1<<63 - 1, 64, false, math.MaxInt64, api.OK},
		{1<<63 - 1, 63, false, math.MaxInt64, api.OK},
		{1<<63 - 1, 63, true, -1, api.OK},
		{1 << 63, 63, true, 0, api.ErrRange},
		{1 << 63, 63, false, 0, api.ErrRange},
	} {
		if got, e := ints.Widen(x.n, x.bits, x.signed); got != x.want || e != x.e {
			t.Errorf("Widen of %d in %d, %v: %d, %d", x.n, x.bits, x.signed, got, e)
		}
	}
}

// P2.4 and P2.7: what fits, and only that, comes back.
func TestFitAndWiden(t *testing.T) {
	for _, n := range edges() {
		for bits := 1; bits <= 64; bits++ {
			for _, signed := range []bool{false, true} {
				written, e := ints.Fit(int64(n), bits, signed)
				if want, we := fit(int64(n), bits, signed); written != want || e != we {
					t.Fatalf("Fit of %d in %d, %v: %d, %d", int64(n), bits, signed, written, e)
				}
				if got, we := ints.Widen(written, bits, signed); e == api.OK && (got != int64(n) || we != api.OK) {
					t.Fatalf("Widen of Fit of %d in %d, %v: %d, %d", int64(n), bits, signed, got, we)
				}
				read, e := ints.Widen(n, bits, signed)
				if want, we := widen(n, bits, signed); read != want || e != we {
					t.Fatalf("Widen of %d in %d, %v: %d, %d", n, bits, signed, read, e)
				}
				if got, we := ints.Fit(read, bits, signed); e == api.OK && (got != n || we != api.OK) {
					t.Fatalf("Fit of Widen of %d in %d, %v: %d, %d", n, bits, signed, got, we)
				}
			}
		}
	}
}

// P2.4 and P2.5
func TestBadBits(t *testing.T) {
	for _, bits := range badBits {
		for _, n := range []uint64{0, 1, 255, math.MaxUint64} {
			for _, signed := range []bool{false, true} {
				if got, e := ints.Fit(int64(n), bits, signed); got != 0 || e != api.ErrRange {
					t.Errorf("Fit of %d in %d, %v: %d, %d", int64(n), bits, signed, got, e)
				}
				if got, e := ints.Widen(n, bits, signed); got != 0 || e != api.ErrRange {
					t.Errorf("Widen of %d in %d, %v: %d, %d", n, bits, signed, got, e)
				}
			}
			for _, k := range places {
				if got, e := ints.Turn(n, bits, k); got != 0 || e != api.ErrRange {
					t.Errorf("Turn of %d in %d by %d: %d, %d", n, bits, k, got, e)
				}
			}
		}
	}
}

// turn is Turn, bit by bit.
func turn(n uint64, bits, k int) uint64 {
	k = (k%bits + bits) % bits
	var turned uint64
	for at := range bits {
		turned |= n >> at & 1 << ((at + k) % bits)
	}
	return turned
}

// P2.5
func TestTurn(t *testing.T) {
	for _, x := range []struct {
		n       uint64
		bits, k int
		want    uint64
		e       api.Errno
	}{
		{6, 3, 1, 5, api.OK},
		{6, 3, -1, 3, api.OK},
		{6, 3, 4, 5, api.OK},
		{6, 3, 0, 6, api.OK},
		{8, 3, 1, 0, api.ErrRange},
		{8, 3, 0, 0, api.ErrRange},
		{1, 1, 7, 1, api.OK},
		{2, 1, 7, 0, api.ErrRange},
		{1 << 63, 64, 1, 1, api.OK},
		{1, 64, -1, 1 << 63, api.OK},
		{1 << 63, 63, 1, 0, api.ErrRange},
		{1 << 62, 63, 1, 1, api.OK},
		{math.MaxUint64, 64, 17, math.MaxUint64, api.OK},
		{5, 64, 64, 5, api.OK},
	} {
		if got, e := ints.Turn(x.n, x.bits, x.k); got != x.want || e != x.e {
			t.Errorf("Turn of %d in %d by %d: %d, %d", x.n, x.bits, x.k, got, e)
		}
	}
	for _, n := range edges() {
		for bits := 1; bits <= 64; bits++ {
			n &= ones(bits)
			for _, k := range places {
				if got, e := ints.Turn(n, bits, k); got != turn(n, bits, k) || e != api.OK {
					t.Fatalf("Turn of %d in %d by %d: %d, %d", n, bits, k, got, e)
				}
			}
		}
	}
}

// P2.5: a number with a bit above those that are turned.
func TestTurnRange(t *testing.T) {
	for bits := 1; bits < 64; bits++ {
		for _, k := range places {
			if got, e := ints.Turn(1<<bits, bits, k); got != 0 || e != api.ErrRange {
				t.Errorf("Turn of 2^%d in %d by %d: %d, %d", bits, bits, k, got, e)
			}
			if got, e := ints.Turn(ones(bits), bits, k); got != ones(bits) || e != api.OK {
				t.Errorf("Turn of 2^%d - 1 in %d by %d: %d, %d", bits, bits, k, got, e)
			}
		}
	}
}

// P2.9
func TestTurnAgain(t *testing.T) {
	for _, n := range []uint64{0, 1, 0x0123456789abcdef, 0xf00000000000000a, math.MaxUint64} {
		for bits := 1; bits <= 64; bits++ {
			n := n & ones(bits)
			for _, j := range places {
				once, _ := ints.Turn(n, bits, j)
				if back, e := ints.Turn(once, bits, -j); j != math.MinInt && (back != n || e != api.OK) {
					t.Fatalf("Turn of %d in %d by %d, and back: %d, %d", n, bits, j, back, e)
				}
				for _, k := range places {
					if (j+k < j) != (k < 0) {
						continue // an overflow
					}
					twice, _ := ints.Turn(once, bits, k)
					if both, e := ints.Turn(n, bits, j+k); both != twice || e != api.OK {
						t.Fatalf("Turn of %d in %d by %d, and %d: %d, at once %d", n, bits, j, k, twice, both)
					}
				}
			}
		}
	}
}

// P2.5
func TestFieldAndWith(t *testing.T) {
	if got, e := ints.Field(180, 2, 4); got != 13 || e != api.OK {
		t.Errorf("Field of 180, 2, 4: %d, %d", got, e)
	}
	if got, e := ints.With(180, 2, 4, 1); got != 132 || e != api.OK {
		t.Errorf("With of 180, 2, 4, 1: %d, %d", got, e)
	}
	for _, n := range []uint64{0, 180, 0x0123456789abcdef, 0xfedcba9876543210, 1 << 63, math.MaxUint64} {
		if got, e := ints.Field(n, 0, 64); got != n || e != api.OK {
			t.Errorf("Field of all bits of %d: %d, %d", n, got, e)
		}
		if got, e := ints.With(n, 0, 64, 77); got != 77 || e != api.OK {
			t.Errorf("With of all bits of %d: %d, %d", n, got, e)
		}
		if got, e := ints.Field(n, 63, 1); got != n>>63 || e != api.OK {
			t.Errorf("Field of the highest bit of %d: %d, %d", n, got, e)
		}
	}
}

// P2.5
func TestFieldErrors(t *testing.T) {
	for _, x := range []struct{ at, many int }{{-1, 1}, {-1, 2}, {64, 1}, {64, 0}, {65, -1}, {0, 0}, {0, -1}, {0, 65}, {1, 64}, {63, 2}, {32, 33}, {63, 0}, {math.MinInt, 1}, {math.MaxInt, 1}, {1, math.MaxInt}, {1, math.MinInt}, {math.MaxInt, math.MaxInt}, {math.MinInt, math.MinInt}, {math.MinInt, math.MaxInt}} {
		for _, n := range []uint64{0, 180, math.MaxUint64} {
			if got, e := ints.Field(n, x.at, x.many); got != 0 || e != api.ErrRange {
				t.Errorf("Field of %d, %d, %d: %d, %d", n, x.at, x.many, got, e)
			}
			for _, v := range []uint64{0, 1, math.MaxUint64} {
				if got, e := ints.With(n, x.at, x.many, v); got != 0 || e != api.ErrRange {
					t.Errorf("With of %d, %d, %d, %d: %d, %d", n, x.at, x.many, v, got, e)
				}
			}
		}
	}
}

// P2.5 and P2.9: all fields, bit by bit.
func TestAllFields(t *testing.T) {
	for _, n := range []uint64{0, 0x0123456789abcdef, 0xfedcba9876543210, math.MaxUint64} {
		for at := range 64 {
			for many := 1; many <= 64-at; many++ {
				var want uint64
				for i := range many {
					want |= n >> (at + i) & 1 << i
				}
				if got, e := ints.Field(n, at, many); got != want || e != api.OK {
					t.Fatalf("Field of %d, %d, %d: %d, %d", n, at, many, got, e)
				}
				checkWith(t, n, at, many)
			}
		}
	}
}

// checkWith tries With for values that fit, and for some that do not.
func checkWith(t *testing.T, n uint64, at, many int) {
	t.Helper()
	for _, v := range []uint64{0, 1, ones(many), ones(many) / 3, 1 << (many - 1)} {
		got, e := ints.With(n, at, many, v)
		if e != api.OK {
			t.Fatalf("With of %d, %d, %d, %d: %d", n, at, many, v, e)
		}
		for i := range 64 {
			want := n >> i & 1
			if i >= at && i < at+many {
				want = v >> (i - at) & 1
			}
			if got>>i&1 != want {
				t.Fatalf("With of %d, %d, %d, %d: %d", n, at, many, v, got)
			}
		}
		if back, e := ints.Field(got, at, many); back != v || e != api.OK {
			t.Fatalf("Field after With of %d, %d, %d, %d: %d, %d", n, at, many, v, back, e)
		}
	}
	if many == 64 {
		return
	}
	for _, v := range []uint64{1 << many, 1<<many + 1, math.MaxUint64} {
		if got, e := ints.With(n, at, many, v); got != 0 || e != api.ErrRange {
			t.Fatalf("With of %d, %d, %d, %d: %d, %d", n, at, many, v, got, e)
		}
	}
}
