package sha_test

import (
	"bytes"
	"crypto/sha256"
	"encoding/binary"
	"encoding/hex"
	"math"
	"slices"
	"strings"
	"testing"

	"groundling/api"
	"groundling/sha"
)

// abc is the published digest of the bytes abc.
const abc = "ba7816bf8f01cfea414140de5dae2223b00361a396177a9cb410ff61f20015ad"

// someBytes returns n bytes, of which no two neighbours are the same.
func someBytes(n int) []byte {
	b := make([]byte, n)
	for i := range b {
		b[i] = byte(i*7 + i/251)
	}
	return b
}

// checkPad checks the padding of n bytes against its definition.
func checkPad(t *testing.T, n int64) {
	t.Helper()
	p, e := sha.Pad(n)
	if e != api.OK || len(p) < 9 || len(p) > 72 || (n+int64(len(p)))%64 != 0 {
		t.Fatalf("Pad of %d: %v, %d", n, p, e)
	}
	zeros := p[1 : len(p)-8]
	if p[0] != 128 || len(zeros) > 63 || bytes.Count(zeros, []byte{0}) != len(zeros) {
		t.Errorf("Pad of %d: %v", n, p)
	}
	if got := binary.BigEndian.Uint64(p[len(p)-8:]); got != 8*uint64(n) {
		t.Errorf("Pad of %d ends with %d", n, got)
	}
}

// P3.2
func TestPad(t *testing.T) {
	for n, size := range map[int64]int{0: 64, 1: 63, 54: 10, 55: 9, 56: 72, 57: 71, 63: 65, 64: 64, 119: 9, 120: 72, 1 << 60: 64} {
		if p, e := sha.Pad(n); len(p) != size || e != api.OK {
			t.Errorf("Pad of %d: %d bytes, %d", n, len(p), e)
		}
	}
	for n := range int64(5000) {
		checkPad(t, n)
		checkPad(t, 1<<60-n)
	}
	for k := range 60 {
		for d := range int64(3) {
			checkPad(t, max(0, 1<<k+d-1))
		}
	}
	if p, _ := sha.Pad(0); !bytes.Equal(p, append([]byte{128}, make([]byte, 63)...)) {
		t.Errorf("Pad of 0: %v", p)
	}
	if p, _ := sha.Pad(55); !bytes.Equal(p, []byte{128, 0, 0, 0, 0, 0, 0, 1, 184}) {
		t.Errorf("Pad of 55: %v", p)
	}
}

// P3.2
func TestPadErrors(t *testing.T) {
	for _, n := range []int64{-1, -2, -9, -55, -64, -1 << 60, math.MinInt64, 1<<60 + 1, 1<<60 + 64, 1 << 61, 1 << 62, math.MaxInt64} {
		if p, e := sha.Pad(n); len(p) > 0 || e != api.ErrRange {
			t.Errorf("Pad of %d: %v, %d", n, p, e)
		}
	}
}

// P3.7: a padding shares no memory with another one.
func TestPadMemory(t *testing.T) {
	p, _ := sha.Pad(3)
	for i := range p {
		p[i] = 77
	}
	checkPad(t, 3)
}

// P3.2: digests that are published.
func TestSum(t *testing.T) {
	for s, want := range map[string]string{
		"abc": abc,
		"":    "e3b0c44298fc1c149afbf4c8996fb92427ae41e4649b934ca495991b7852b855",
		"abcdbcdecdefdefgefghfghighijhijkijkljklmklmnlmnomnopnopq": "248d6a61d20638b8e5c026930c3e6039a33ce45964ff2167f6ecedd419db06c1",
		strings.Repeat("a", 1000000):                               "cdc76e5c9914fb9281a1c7e284d73e67f1809a48a497200e046d39ccc7112cd0",
	} {
		if got := sha.Hex(sha.Sum([]byte(s))); got != want {
			t.Errorf("Sum of %.60q: %s", s, got)
		}
	}
	if sha.Sum(nil) != sha.Sum([]byte{}) {
		t.Error("Sum of nil is not that of no bytes")
	}
}

// P3.2: of each length up to some blocks, and of each byte.
func TestSumOfAll(t *testing.T) {
	all := someBytes(1000)
	for n := range all {
		if got := sha.Sum(all[:n]); got != sha256.Sum256(all[:n]) {
			t.Errorf("Sum of %d bytes: %x", n, got)
		}
	}
	for c := range 256 {
		for _, n := range []int{1, 3, 64, 65} {
			b := bytes.Repeat([]byte{byte(c)}, n)
			if got := sha.Sum(b); got != sha256.Sum256(b) {
				t.Errorf("Sum of %d bytes %d: %x", n, c, got)
			}
		}
	}
}

// padded returns the digest as it is defined: the state into which all blocks are taken, beginning with the start.
func padded(t *testing.T, b []byte) [32]byte {
	t.Helper()
	padding, e := sha.Pad(int64(len(b)))
	if e != api.OK {
		t.Fatalf("Pad of %d: %d", len(b), e)
	}
	state := sha.Start()
	for block := range slices.Chunk(slices.Concat(b, padding), 64) {
		state = sha.Block(state, [64]byte(block))
	}
	var d []byte
	for _, x := range state {
		d = binary.BigEndian.AppendUint32(d, x)
	}
	return [32]byte(d)
}

// P3.1 and P3.2: the digest is what Start, Block and Pad make.
func TestSumOfParts(t *testing.T) {
	all := someBytes(300)
	for n := range all {
		if got, want := sha.Sum(all[:n]), padded(t, all[:n]); got != want {
			t.Errorf("Sum of %d bytes: %x, of its blocks %x", n, got, want)
		}
	}
}

// P3.7: neither the bytes nor the memory after them is changed.
func TestSumMemory(t *testing.T) {
	all := someBytes(300)
	for n := range all {
		sha.Sum(all[:n])
	}
	if !bytes.Equal(all, someBytes(300)) {
		t.Error("Sum changed its argument")
	}
}

// P3.3
func TestHexAndParse(t *testing.T) {
	digest, e := sha.Parse(abc)
	if e != api.OK || digest != sha256.Sum256([]byte("abc")) || sha.Hex(digest) != abc {
		t.Errorf("Parse of %s: %x, %d", abc, digest, e)
	}
	if got := sha.Hex([32]byte{0: 0x1f, 31: 0xa0}); got != "1f"+strings.Repeat("0", 60)+"a0" {
		t.Errorf("Hex: %s", got)
	}
	for c := range 256 {
		for i := range 32 {
			d := [32]byte(someBytes(32))
			d[i] = byte(c)
			s := sha.Hex(d)
			if s != hex.EncodeToString(d[:]) {
				t.Fatalf("Hex of %v: %s", d, s)
			}
			if got, e := sha.Parse(s); got != d || e != api.OK {
				t.Fatalf("Parse of %s: %v, %d", s, got, e)
			}
		}
	}
}

// P3.3: each byte at each place of a string.
func TestParseBytes(t *testing.T) {
	for i := range abc {
		for c := range 256 {
			s := abc[:i] + string([]byte{byte(c)}) + abc[i+1:]
			digit := strings.IndexByte("0123456789abcdef", byte(c)) >= 0
			got, e := sha.Parse(s)
			if digit != (e == api.OK) || !digit && (e != api.ErrForm || got != [32]byte{}) {
				t.Errorf("Parse of %q: %v, %d", s, got, e)
			}
			if digit && sha.Hex(got) != s {
				t.Errorf("Hex of Parse of %q: %s", s, sha.Hex(got))
			}
		}
	}
}

// P3.3
func TestParseErrors(t *testing.T) {
	bad := []string{
		"", "0", abc[:62], abc[:63], abc + "0", abc + "00", abc + abc, " " + abc, abc + "\n", " " + abc[1:], abc[:63] + " ",
		"0x" + abc, "0x" + abc[2:], strings.ToUpper(abc), strings.Repeat("é", 32), strings.Repeat("\x00", 64),
		abc[:62] + "-1", "+" + abc[1:], strings.Repeat("0", 100000),
	}
	for _, s := range bad {
		if d, e := sha.Parse(s); d != [32]byte{} || e != api.ErrForm {
			t.Errorf("Parse of %.100q: %v, %d", s, d, e)
		}
	}
}
