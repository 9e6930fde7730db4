package sha

// word is a number of 32 bits, as bits that are moved.
type word uint32

// rot returns x rotated to the right by n bits.
func (x word) rot(n uint) word {
	return x>>n | x<<(32-n)
}

// shr returns x divided by 2^n, rounded down.
func (x word) shr(n uint) word {
	return x >> n
}

// smallS0 is s0 of the document, and smallS1 its s1: they lose bits at the lower end.
func smallS0(x uint32) uint32 { return mix(x, 7, 18, 3, word.shr) }

func smallS1(x uint32) uint32 { return mix(x, 17, 19, 10, word.shr) }

// bigS0 is S0 of the document, and bigS1 its S1: they lose none.
func bigS0(x uint32) uint32 { return mix(x, 2, 13, 22, word.rot) }

func bigS1(x uint32) uint32 { return mix(x, 6, 11, 25, word.rot) }

// mix returns x rotated by i, rotated by j, and moved by k in the given way, combined by exclusive or.
func mix(x uint32, i, j, k uint, move func(word, uint) word) uint32 {
	return uint32(word.rot(word(x), i) ^ word.rot(word(x), j) ^ move(word(x), k))
}

// ch returns the bits of y where x has a 1, and those of z where x has a 0.
func ch(x, y, z uint32) uint32 {
	return x&y | ^x&z
}

// maj returns the bits that at least two of the three have.
func maj(x, y, z uint32) uint32 {
	return x&y | x&z | y&z
}

// wordOf returns the word whose bytes b are, the highest one first.
func wordOf(b [wordSize]byte) uint32 {
	return uint32(b[0])<<24 | uint32(b[1])<<16 | uint32(b[2])<<8 | uint32(b[3])
}

// bytesOf returns the bytes of a word, the highest one first.
func bytesOf(x uint32) [wordSize]byte {
	return [wordSize]byte{byte(x >> 24), byte(x >> 16), byte(x >> 8), byte(x)}
}
