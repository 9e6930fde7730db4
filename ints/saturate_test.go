package ints_test

import (
	"math"
	"math/big"
	"testing"

	"groundling/ints"
)

// saturated returns n, or the number of 64 bits that is nearest to it.
func saturated(n *big.Int) int64 {
	switch {
	case n.IsInt64():
		return n.Int64()
	case n.Sign() < 0:
		return math.MinInt64
	}
	return math.MaxInt64
}

// P2.6
func TestAdd(t *testing.T) {
	for _, x := range []struct{ a, b, want int64 }{
		{2, 3, 5},
		{-2, -3, -5},
		{7, -9, -2},
		{math.MaxInt64, 0, math.MaxInt64},
		{math.MaxInt64, 1, math.MaxInt64},
		{math.MaxInt64 - 1, 1, math.MaxInt64},
		{math.MaxInt64, math.MaxInt64, math.MaxInt64},
		{math.MaxInt64, math.MinInt64, -1},
		{math.MinInt64, -1, math.MinInt64},
		{math.MinInt64 + 1, -1, math.MinInt64},
		{math.MinInt64, math.MinInt64, math.MinInt64},
		{math.MinInt64, 1, math.MinInt64 + 1},
		{0, math.MinInt64, math.MinInt64},
	} {
		if got := ints.Add(x.a, x.b); got != x.want {
			t.Errorf("Add of %d, %d: %d", x.a, x.b, got)
		}
		if got := ints.Add(x.b, x.a); got != x.want {
			t.Errorf("Add of %d, %d: %d", x.b, x.a, got)
		}
	}
}

// P2.6
func TestMul(t *testing.T) {
	for _, x := range []struct{ a, b, want int64 }{
		{2, 3, 6},
		{-2, 3, -6},
		{-2, -3, 6},
		{0, math.MaxInt64, 0},
		{0, math.MinInt64, 0},
		{0, -5, 0},
		{1, math.MinInt64, math.MinInt64},
		{-1, math.MinInt64, math.MaxInt64},
		{-1, math.MaxInt64, -math.MaxInt64},
		{2, 1 << 62, math.MaxInt64},
		{-2, 1 << 62, math.MinInt64},
		{2, -1 << 62, math.MinInt64},
		{-2, -1 << 62, math.MaxInt64},
		{1 << 32, 1 << 32, math.MaxInt64},
		{1 << 32, -1 << 32, math.MinInt64},
		{1 << 32, 1 << 31, math.MaxInt64},
		{-1 << 32, 1 << 31, math.MinInt64},
		{3037000499, 3037000499, 9223372030926249001},
		{3037000500, 3037000500, math.MaxInt64},
		{math.MaxInt64, math.MaxInt64, math.MaxInt64},
		{math.MaxInt64, math.MinInt64, math.MinInt64},
		{math.MinInt64, math.MinInt64, math.MaxInt64},
		{3, math.MinInt64 / 3, math.MinInt64 + 2},
	} {
		if got := ints.Mul(x.a, x.b); got != x.want {
			t.Errorf("Mul of %d, %d: %d", x.a, x.b, got)
		}
		if got := ints.Mul(x.b, x.a); got != x.want {
			t.Errorf("Mul of %d, %d: %d", x.b, x.a, got)
		}
	}
}

// P2.6
func TestAddAndMulOfAll(t *testing.T) {
	for _, a := range signedEdges() {
		for _, b := range signedEdges() {
			x, y := big.NewInt(a), big.NewInt(b)
			if got, want := ints.Add(a, b), saturated(new(big.Int).Add(x, y)); got != want {
				t.Fatalf("Add of %d, %d: %d, want %d", a, b, got, want)
			}
			if got, want := ints.Mul(a, b), saturated(new(big.Int).Mul(x, y)); got != want {
				t.Fatalf("Mul of %d, %d: %d, want %d", a, b, got, want)
			}
		}
	}
}

// P2.6
func TestShift(t *testing.T) {
	for _, x := range []struct {
		a    int64
		k    int
		want int64
	}{
		{3, 0, 3},
		{3, 2, 12},
		{3, 61, 6917529027641081856},
		{3, 62, math.MaxInt64},
		{3, 63, math.MaxInt64},
		{3, 64, math.MaxInt64},
		{1, 62, 1 << 62},
		{1, 63, math.MaxInt64},
		{-1, 63, math.MinInt64},
		{-1, 64, math.MinInt64},
		{-2, 62, math.MinInt64},
		{-2, 63, math.MinInt64},
		{-3, 61, -6917529027641081856},
		{-3, 62, math.MinInt64},
		{-3, 64, math.MinInt64},
		{5, math.MaxInt, math.MaxInt64},
		{-5, math.MaxInt, math.MinInt64},
		{0, 64, 0},
		{0, math.MaxInt, 0},
		{0, math.MinInt, 0},
		{-3, -1, -2},
		{3, -1, 1},
		{-4, -1, -2},
		{-1, -1, -1},
		{5, -3, 0},
		{-5, -3, -1},
		{math.MaxInt64, -62, 1},
		{math.MaxInt64, -63, 0},
		{math.MinInt64, -63, -1},
		{math.MinInt64, -64, -1},
		{math.MinInt64, math.MinInt, -1},
		{math.MaxInt64, math.MinInt, 0},
		{math.MaxInt64, math.MinInt + 1, 0},
	} {
		if got := ints.Shift(x.a, x.k); got != x.want {
			t.Errorf("Shift of %d by %d: %d", x.a, x.k, got)
		}
	}
}

// P2.6
func TestShiftOfAll(t *testing.T) {
	for _, a := range signedEdges() {
		for k := -140; k <= 140; k++ {
			want := big.NewInt(a)
			if k >= 0 {
				want.Lsh(want, uint(k))
			} else {
				want.Rsh(want, uint(-k))
			}
			if got := ints.Shift(a, k); got != saturated(want) {
				t.Fatalf("Shift of %d by %d: %d, want %d", a, k, got, saturated(want))
			}
		}
	}
}
