package hmac

// Equal compares bytes, all of them.
func Equal(a, b []byte) (same bool, looked int) {
	var bits byte
	common := min(len(a), len(b))
	for i := range common {
		bits = collect(bits, a[i], b[i])
		looked++
	}
	// At most one of the two goes on, and the other one has bytes 0 there.
	for _, c := range a[common:] {
		bits = collect(bits, c, 0)
		looked++
	}
	for _, c := range b[common:] {
		bits = collect(bits, 0, c)
		looked++
	}
	all := collect(uint64(bits), uint64(len(a)), uint64(len(b)))
	return all == 0, looked
}

// collect adds the bits in which a and b differ to those that were found before. It has no branch, so that it takes as long for equal numbers as for others.
func collect[N byte | uint64](found, a, b N) N {
	return found | (a ^ b)
}
