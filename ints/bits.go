package ints

import (
	"math"

	"groundling/api"
)

// maxBits is how many bits a number has at most.
const maxBits = 64

// Zig returns the number of n in the order 0, -1, 1, -2, 2 and so on.
func Zig(n int64) uint64 {
	return uint64(n)<<1 ^ uint64(n>>63)
}

// Zag returns the integer whose number is n in the order 0, -1, 1, -2, 2 and so on.
func Zag(n uint64) int64 {
	return int64(n>>1) ^ -int64(n&1)
}

// Fit returns n as it is written in so many bits.
func Fit(n int64, bits int, signed bool) (uint64, api.Errno) {
	if !isBits(bits) {
		return 0, api.ErrRange
	}
	// What n loses in so few bits is missing when it is read.
	written := uint64(n) & ones(bits)
	if read, e := Widen(written, bits, signed); e != api.OK || read != n {
		return 0, api.ErrRange
	}
	return written, api.OK
}

// Widen returns the number that is written as n in so many bits.
func Widen(n uint64, bits int, signed bool) (int64, api.Errno) {
	if !isBits(bits) || !fits(n, bits) {
		return 0, api.ErrRange
	}
	if signed {
		// At the upper end the highest bit is the sign, of which the way back leaves copies.
		unused := maxBits - bits
		return int64(n<<unused) >> unused, api.OK
	}
	if n > math.MaxInt64 {
		return 0, api.ErrRange
	}
	return int64(n), api.OK
}

// Turn returns n, whose bits, so many of them, are turned round by k places towards the higher ones.
func Turn(n uint64, bits, k int) (uint64, api.Errno) {
	if !isBits(bits) || !fits(n, bits) {
		return 0, api.ErrRange
	}
	k %= bits
	if k < 0 {
		k += bits
	}
	return (n<<k | n>>(bits-k)) & ones(bits), api.OK
}

// Field returns the number that the bits of n from at on are, many of them.
func Field(n uint64, at, many int) (uint64, api.Errno) {
	if !isField(at, many) {
		return 0, api.ErrRange
	}
	return n >> at & ones(many), api.OK
}

// With returns n, in which the bits from at on, many of them, are v.
func With(n uint64, at, many int, v uint64) (uint64, api.Errno) {
	if !isField(at, many) || !fits(v, many) {
		return 0, api.ErrRange
	}
	return n&^(ones(many)<<at) | v<<at, api.OK
}

// isBits reports whether a number may have so many bits.
func isBits(bits int) bool {
	return bits >= 1 && bits <= maxBits
}

// isField reports whether a number has many bits from at on.
func isField(at, many int) bool {
	return at >= 0 && at < maxBits && many >= 1 && many <= maxBits-at
}

// fits reports whether n is less than 2^bits.
func fits(n uint64, bits int) bool {
	return n>>bits == 0
}

// ones returns the number whose lowest bits, so many of them, are 1.
func ones(bits int) uint64 {
	return 1<<bits - 1
}
