package ints

import (
	"math"
	"math/bits"
)

// integer are the types of signed integers, whose sums saturate.
type integer interface {
	~int | ~int8 | ~int16 | ~int32 | ~int64
}

// Add returns the sum of a and b, saturating.
func Add(a, b int64) int64 {
	return addWithin(a, b, math.MinInt64, math.MaxInt64)
}

// Mul returns the product of a and b, saturating.
func Mul(a, b int64) int64 {
	negative := (a < 0) != (b < 0)
	high, low := bits.Mul64(size(a), size(b))
	if high > 0 || low > size(limit(negative)) {
		return limit(negative)
	}
	if negative {
		return int64(-low)
	}
	return int64(low)
}

// Shift returns a times 2^k, saturating; if k is below 0, it is rounded down.
func Shift(a int64, k int) int64 {
	if k < 0 {
		// As an unsigned number -k is right also for the least k.
		return a >> uint(-k)
	}
	if a<<k>>k != a {
		return limit(a < 0)
	}
	return a << k
}

// addWithin returns the sum of a and b, or that of the limits low and high which is nearer, if the sum is beyond it. The limits are not on one side of 0. They are looked at before the sum is made, because a sum that overflows wraps around.
func addWithin[N integer](a, b, low, high N) N {
	switch {
	case b > 0 && a > high-b:
		return high
	case b < 0 && a < low-b:
		return low
	}
	return a + b
}

// limit returns the least number, or the greatest one.
func limit(least bool) int64 {
	if least {
		return math.MinInt64
	}
	return math.MaxInt64
}

// size returns a without its sign. The least number has no positive counterpart, but wraps around to its own size.
func size(a int64) uint64 {
	if a < 0 {
		return -uint64(a)
	}
	return uint64(a)
}
