package sha

import "groundling/api"

// Hash is bytes that are written in parts.
type Hash struct {
	self   *Hash // the hash itself: by this, one that was not made here, also a copy of the struct, is found out
	state  [8]uint32
	last   [blockSize]byte // begins with the bytes that make no whole block yet
	length int64
}

// New returns a hash without bytes.
func New() *Hash {
	h := &Hash{}
	h.begin()
	return h
}

// Write adds bytes.
func (h *Hash) Write(b []byte) api.Errno {
	if !h.isMade() {
		return api.ErrNil
	}
	h.take(b)
	return api.OK
}

// Sum returns the digest of all bytes.
func (h *Hash) Sum() ([32]byte, api.Errno) {
	if !h.isMade() {
		return [digestSize]byte{}, api.ErrNil
	}
	return h.digest(), api.OK
}

// Len returns how many bytes there are.
func (h *Hash) Len() (int64, api.Errno) {
	if !h.isMade() {
		return 0, api.ErrNil
	}
	return h.length, api.OK
}

// Copy returns another hash with the same bytes.
func (h *Hash) Copy() (*Hash, api.Errno) {
	if !h.isMade() {
		return nil, api.ErrNil
	}
	other := *h
	other.self = &other
	return &other, api.OK
}

// Reset takes all bytes away.
func (h *Hash) Reset() api.Errno {
	if !h.isMade() {
		return api.ErrNil
	}
	h.begin()
	return api.OK
}

// isMade reports whether New or Copy returned h.
func (h *Hash) isMade() bool {
	return h != nil && h.self == h
}

// begin makes h a hash without bytes.
func (h *Hash) begin() {
	*h = Hash{self: h, state: start}
}

// take adds bytes to h; a block is taken into the state as soon as it is whole.
func (h *Hash) take(b []byte) {
	for len(b) > 0 {
		n := copy(h.last[h.length%blockSize:], b)
		b = b[n:]
		h.length += int64(n)
		if h.length%blockSize == 0 {
			h.state = Block(h.state, h.last)
		}
	}
}

// digest returns the digest of all bytes of h. The padding is taken by a copy, so that more bytes can be written to h.
func (h *Hash) digest() [digestSize]byte {
	padded := *h
	// The length is far below that which has no padding (rule R7).
	padding, _ := Pad(h.length)
	padded.take(padding)
	var d [digestSize]byte
	for i, x := range padded.state {
		b := bytesOf(x)
		copy(d[i*wordSize:], b[:])
	}
	return d
}
