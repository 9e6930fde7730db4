package hmac_test

import (
	"bytes"
	library "crypto/hmac"
	"crypto/sha256"
	"encoding/hex"
	"slices"
	"strings"
	"testing"

	"groundling/api"
	"groundling/hmac"
	"groundling/sha"
)

// someBytes returns n bytes, of which no two neighbours are the same, and none of the first ones is 0.
func someBytes(n int) []byte {
	b := make([]byte, n)
	for i := range b {
		b[i] = byte(i*7 + i/251 + 1)
	}
	return b
}

// tagOf returns the tag that Go's own library makes.
func tagOf(key, b []byte) [32]byte {
	h := library.New(sha256.New, key)
	h.Write(b)
	return [32]byte(h.Sum(nil))
}

// sizes are lengths around those at which keys and blocks end.
func sizes() []int {
	return []int{0, 1, 2, 31, 32, 33, 54, 55, 56, 57, 63, 64, 65, 66, 96, 127, 128, 129, 131, 200}
}

// P4.1: RFC 4231's test cases; of the fifth one only the first half of the tag is published.
func TestTagOfExamples(t *testing.T) {
	long := bytes.Repeat([]byte{0xaa}, 131)
	for i, c := range []struct {
		key     []byte
		b, want string
	}{
		{bytes.Repeat([]byte{11}, 20), "Hi There", "b0344c61d8db38535ca8afceaf0bf12b881dc200c9833da726e9376c2e32cff7"},
		{[]byte("Jefe"), "what do ya want for nothing?", "5bdcc146bf60754e6a042426089575c75a003f089d2739839dec58b964ec3843"},
		{bytes.Repeat([]byte{0xaa}, 20), strings.Repeat("\xdd", 50), "773ea91e36800e46854db8ebd09181a72959098b3ef8c122d9635514ced565fe"},
		{[]byte("\x01\x02\x03\x04\x05\x06\x07\x08\x09\x0a\x0b\x0c\x0d\x0e\x0f\x10\x11\x12\x13\x14\x15\x16\x17\x18\x19"), strings.Repeat("\xcd", 50), "82558a389a443c0ea4cc819899f2083a85f0faa3e578f8077a2e3ff46729665b"},
		{bytes.Repeat([]byte{12}, 20), "Test With Truncation", "a3b6167473100ee06e0c796c2955552b"},
		{long, "Test Using Larger Than Block-Size Key - Hash Key First", "60e431591ee0b67f0d8a26aacbf5b77f8e0bc6213728c5140546040f0ee37f54"},
		{long, "This is a test using a larger than block-size key and a larger than block-size data. The key needs to be hashed before being used by the HMAC algorithm.", "9b09ffa71b942fcb27635fbcd5b0e944bfdc63644f0713938a7f51535c3a35e2"},
	} {
		tag := hmac.Tag(c.key, []byte(c.b))
		if got := hex.EncodeToString(tag[:]); !strings.HasPrefix(got, c.want) {
			t.Errorf("Tag of case %d: %s, want %s", i+1, got, c.want)
		}
	}
}

// P4.1
func TestTag(t *testing.T) {
	all := someBytes(400)
	for n := range 200 {
		for _, size := range sizes() {
			key, b := all[:n], all[150:150+size]
			if got, want := hmac.Tag(key, b), tagOf(key, b); got != want {
				t.Fatalf("Tag of %d bytes under a key of %d: %x, want %x", size, n, got, want)
			}
		}
	}
	if hmac.Tag(nil, nil) != hmac.Tag([]byte{}, []byte{}) || hmac.Tag(nil, nil) != tagOf(nil, nil) {
		t.Error("Tag of nil under nil is not that of no bytes under no key")
	}
}

// combined returns the block, with each byte combined by exclusive or with mask.
func combined(block [64]byte, mask byte) []byte {
	var pad []byte
	for _, c := range block {
		pad = append(pad, c^mask)
	}
	return pad
}

// P4.1: the tag is what Block and digests make.
func TestTagOfParts(t *testing.T) {
	all := someBytes(400)
	for _, n := range sizes() {
		for _, size := range sizes() {
			key, b := all[:n], all[n:n+size]
			block := hmac.Block(key)
			inner := sha.Sum(append(combined(block, 54), b...))
			want := sha.Sum(append(combined(block, 92), inner[:]...))
			if got := hmac.Tag(key, b); got != want {
				t.Errorf("Tag of %d bytes under a key of %d: %x, of its pads %x", size, n, got, want)
			}
		}
	}
}

// P4.1
func TestBlock(t *testing.T) {
	all := someBytes(300)
	for n := range all {
		key := all[:n]
		start := key
		if n > 64 {
			digest := sha256.Sum256(key)
			start = digest[:]
		}
		want := [64]byte(append(slices.Clone(start), make([]byte, 64-len(start))...))
		if got := hmac.Block(key); got != want {
			t.Errorf("Block of a key of %d bytes: %x, want %x", n, got, want)
		}
	}
	if hmac.Block(nil) != [64]byte{} {
		t.Error("Block of nil has bytes that are not 0")
	}
}

// P4.5: bytes 0 after a key do not count, as long as it has at most 64 of them; a longer key counts as its digest.
func TestKeys(t *testing.T) {
	b := []byte("abc")
	all := someBytes(200)
	for n := range 65 {
		key := all[:n]
		tag := hmac.Tag(key, b)
		for more := range 65 - n {
			same := append(slices.Clone(key), make([]byte, more)...)
			if hmac.Tag(same, b) != tag || hmac.Block(same) != hmac.Block(key) {
				t.Fatalf("a key of %d bytes, and with %d bytes 0 after it, have different tags", n, more)
			}
		}
		if longer := append(slices.Clone(key), make([]byte, 65-n)...); hmac.Tag(longer, b) == tag {
			t.Errorf("a key of %d bytes has the same tags with bytes 0 after it, 65 in all", n)
		}
	}
	for n := 65; n <= len(all); n++ {
		digest := sha256.Sum256(all[:n])
		if hmac.Tag(all[:n], b) != hmac.Tag(digest[:], b) || hmac.Block(all[:n]) != hmac.Block(digest[:]) {
			t.Errorf("a key of %d bytes has not the tags of its digest", n)
		}
	}
	digest := sha256.Sum256(all[:64])
	if hmac.Tag(all[:64], b) == hmac.Tag(digest[:], b) {
		t.Error("a key of 64 bytes has the tags of its digest")
	}
}

// checkWrong checks that no tag which is not the right one is accepted: with a bit changed, cut off at either end, or with more bytes.
func checkWrong(t *testing.T, right []byte, verify func(tag []byte) api.Errno) {
	t.Helper()
	if e := verify(right); e != api.OK {
		t.Fatalf("Verify of the right tag: %d", e)
	}
	refuse := func(tag []byte, what string) {
		t.Helper()
		if e := verify(tag); e != api.ErrAuth {
			t.Errorf("Verify of a tag %s: %d", what, e)
		}
	}
	for bit := range 8 * len(right) {
		tag := slices.Clone(right)
		tag[bit/8] ^= 1 << (bit % 8)
		refuse(tag, "with a bit changed")
	}
	refuse(nil, "that is nil")
	for n := range right {
		refuse(right[:n], "that is cut off")
		refuse(right[n+1:], "without its begin")
	}
	for _, more := range [][]byte{{0}, {1}, {255}, {0, 0}, make([]byte, 32), make([]byte, 224), make([]byte, 256), right, make([]byte, 65536)} {
		refuse(slices.Concat(right, more), "with more bytes")
		refuse(slices.Concat(more, right), "with bytes before it")
	}
	refuse(make([]byte, 32), "of bytes 0")
	refuse([]byte(hex.EncodeToString(right)), "in hexadecimal digits")
	if e := verify(right); e != api.OK {
		t.Errorf("Verify of the right tag, after others: %d", e)
	}
}

// P4.2 and P4.4
func TestVerify(t *testing.T) {
	all := someBytes(400)
	for _, n := range []int{0, 1, 20, 64, 65, 131} {
		for _, size := range []int{0, 1, 3, 64, 200} {
			key, b := all[:n], all[n:n+size]
			tag := hmac.Tag(key, b)
			checkWrong(t, tag[:], func(tag []byte) api.Errno { return hmac.Verify(key, b, tag) })
		}
	}
}

// P4.2 and P4.4: the tag of other bytes, or under another key.
func TestVerifyOther(t *testing.T) {
	key, b := []byte("Jefe"), []byte("what do ya want for nothing?")
	tag := hmac.Tag(key, b)
	for _, c := range []struct{ key, b string }{
		{"Jeff", string(b)}, {"jefe", string(b)}, {"Jef", string(b)}, {"Jefe1", string(b)}, {"", string(b)},
		{"Jefe", string(b[1:])}, {"Jefe", string(b) + "\x00"}, {"Jefe", "What do ya want for nothing?"}, {"Jefe", ""},
		{string(b), "Jefe"}, {"Jefew", string(b[1:])},
	} {
		if e := hmac.Verify([]byte(c.key), []byte(c.b), tag[:]); e != api.ErrAuth {
			t.Errorf("Verify of %q under %q: %d", c.b, c.key, e)
		}
	}
	if e := hmac.Verify([]byte("Jefe\x00"), b, tag[:]); e != api.OK {
		t.Errorf("Verify under a key with a byte 0 after it: %d", e)
	}
	if e := hmac.Verify(nil, nil, nil); e != api.ErrAuth {
		t.Errorf("Verify of nothing: %d", e)
	}
}

// P4.6: no argument is changed, and no memory after it.
func TestMemory(t *testing.T) {
	for _, n := range sizes() {
		for _, size := range sizes() {
			all := someBytes(600)
			// Between one part and the next there is memory that nobody was given.
			key, b, tag := all[:n], all[210:210+size], all[450:482]
			block := hmac.Block(key)
			first := hmac.Tag(key, b)
			hmac.Verify(key, b, tag)
			hmac.Verify(key, b, first[:])
			hmac.Equal(key, b)
			if !bytes.Equal(all, someBytes(600)) {
				t.Fatalf("a key of %d bytes, or others, %d of them, were changed", n, size)
			}
			if first != tagOf(key, b) || block != hmac.Block(key) {
				t.Fatalf("the tag or the block of a key of %d bytes was changed", n)
			}
		}
	}
}
