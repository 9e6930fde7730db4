package ints

import (
	"math"
	"testing"
)

// P2.6: the function that sums are made of, for all numbers of 8 bits.
func TestAddWithin(t *testing.T) {
	for a := math.MinInt8; a <= math.MaxInt8; a++ {
		for b := math.MinInt8; b <= math.MaxInt8; b++ {
			want := min(max(a+b, math.MinInt8), math.MaxInt8)
			if got := addWithin(int8(a), int8(b), math.MinInt8, math.MaxInt8); int(got) != want {
				t.Errorf("%d and %d: %d, want %d", a, b, got, want)
			}
		}
	}
}
