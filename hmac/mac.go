package hmac

import (
	"groundling/api"
	"groundling/sha"
)

// Mac is bytes that are written in parts, and a key.
type Mac struct {
	inner
	self  *Mac            // the mac itself: by this, one that was not made here, also a copy of the struct, is found out
	block [blockSize]byte // the key's
}

// inner is the hash of the inner pad, and of the bytes after it. Its hash has a name of its own, because a mac would have the methods of an embedded one too, by which the pad could be seen and taken away.
type inner struct {
	hash *sha.Hash
}

// New returns a mac.
func New(key []byte) *Mac {
	m := &Mac{block: Block(key)}
	m.self = m
	m.inner = innerOf(m.block)
	return m
}

// Write adds bytes.
func (m *Mac) Write(b []byte) api.Errno {
	if !m.isMade() {
		return api.ErrNil
	}
	return m.hash.Write(b)
}

// Tag returns the tag of all bytes.
func (m *Mac) Tag() ([32]byte, api.Errno) {
	if !m.isMade() {
		return [tagSize]byte{}, api.ErrNil
	}
	// A hash that sha.New returned has no errors.
	digest, _ := m.hash.Sum()
	return outerOf(m.block, digest), api.OK
}

// Verify compares a tag.
func (m *Mac) Verify(tag []byte) api.Errno {
	right, e := m.Tag()
	if e != api.OK {
		return e
	}
	return check(right, tag)
}

// Reset takes all bytes away.
func (m *Mac) Reset() api.Errno {
	if !m.isMade() {
		return api.ErrNil
	}
	m.inner = innerOf(m.block)
	return api.OK
}

// isMade reports whether New returned m.
func (m *Mac) isMade() bool {
	return m != nil && m.self == m
}

// innerOf returns the hash of the inner pad of a key's block, with no bytes after it.
func innerOf(block [blockSize]byte) inner {
	h := sha.New()
	begin := pad(block, innerMask)
	h.Write(begin[:])
	return inner{hash: h}
}

// outerOf returns the digest of the outer pad of a key's block, followed by the digest of the inner one.
func outerOf(block [blockSize]byte, digest [tagSize]byte) [tagSize]byte {
	var b [blockSize + tagSize]byte
	begin := pad(block, outerMask)
	n := copy(b[:], begin[:])
	copy(b[n:], digest[:])
	return sha.Sum(b[:])
}
