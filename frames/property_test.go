package frames_test

import (
	"bytes"
	"math/rand"
	"slices"
	"testing"

	"groundling/api"
	"groundling/frames"
)

// randomStream returns frames, of which most are short, with what is no frame at some place, and perhaps cut off.
func randomStream(r *rand.Rand) []byte {
	var b []byte
	for range r.Intn(6) {
		many := 1 + r.Intn(6)
		if r.Intn(8) == 0 {
			many = 1 + r.Intn(api.MaxFmBody)
		}
		b = append(b, frame(body(many, byte(r.Int())))...)
		if r.Intn(6) == 0 {
			b = append(b, []byte{71, 1, byte(r.Intn(6)), byte(r.Intn(3))}[:1+r.Intn(4)]...)
		}
	}
	if len(b) > 0 && r.Intn(2) == 0 {
		b = b[:r.Intn(len(b))]
	}
	if len(b) > 0 && r.Intn(4) == 0 {
		b[r.Intn(len(b))] = byte(r.Intn(256))
	}
	return b
}

// feedAll feeds the pieces, one after the other.
func feedAll(t *testing.T, pieces [][]byte) (payloads [][]byte, s api.FmState) {
	t.Helper()
	for _, piece := range pieces {
		next, more, e := frames.Feed(s, piece)
		if e != api.OK {
			t.Fatalf("Feed of %.20v with %.20v: %d", s, piece, e)
		}
		s = next
		payloads = append(payloads, more...)
	}
	return payloads, s
}

// checkPieces checks that the pieces lead to what the stream leads to that they are.
func checkPieces(t *testing.T, pieces [][]byte) {
	t.Helper()
	whole := bytes.Join(pieces, nil)
	want, s := read(whole)
	checkSplit(t, whole, want, s)
	if payloads, got := feedAll(t, pieces); got != s || !equal(payloads, want) {
		t.Errorf("%.20v in %d pieces: %.20v, %.20v, want %.20v, %.20v", whole, len(pieces), payloads, got, want, s)
	}
}

// P7.4: at once, byte by byte, and in pieces of all sizes, also without bytes.
func TestPiecesOfAllSizes(t *testing.T) {
	long := append(stream([]byte("a"), body(300, 4), []byte{71, 1}), 71, 1, 0, 9, 1, 2)
	for _, whole := range [][]byte{long, append(slices.Clone(long[:len(long)-6]), 71, 1, 5, 71, 1, 0, 1, 97), stream(body(7, 71), []byte("b"))} {
		for size := 1; size <= len(whole); size++ {
			pieces := slices.Collect(slices.Chunk(whole, size))
			checkPieces(t, pieces)
			var gaps [][]byte
			for _, p := range pieces {
				gaps = append(gaps, nil, p, []byte{})
			}
			checkPieces(t, gaps)
		}
	}
}

// P7.4: all ways to cut a short stream.
func TestAllPieces(t *testing.T) {
	for _, whole := range [][]byte{
		{71, 1, 0, 1, 97, 71, 1, 0, 2, 98, 99, 71, 1},
		{71, 1, 0, 1, 71, 71, 1, 0, 0, 71, 1, 0, 1},
		{71, 1, 0, 2, 71, 1, 72, 71, 1, 0, 1, 97},
		{71, 1, 0, 1, 97, 71, 1, 4, 1, 97, 98},
	} {
		for cuts := range 1 << (len(whole) - 1) {
			var pieces [][]byte
			from := 0
			for i := 1; i < len(whole); i++ {
				if cuts>>(i-1)&1 == 1 {
					pieces = append(pieces, whole[from:i])
					from = i
				}
			}
			checkPieces(t, append(pieces, whole[from:]))
		}
	}
}

// P7.4: streams and cuts by chance.
func TestRandomPieces(t *testing.T) {
	r := rand.New(rand.NewSource(7))
	for range 20000 {
		whole := randomStream(r)
		var pieces [][]byte
		for most := 1 + r.Intn(40); len(whole) > 0; {
			many := min(r.Intn(most+1), len(whole))
			pieces = append(pieces, whole[:many])
			whole = whole[many:]
		}
		checkPieces(t, pieces)
	}
}

// P7.2: any bytes, most of which are those with which frames begin.
func TestAnyBytes(t *testing.T) {
	r := rand.New(rand.NewSource(8))
	for range 50000 {
		b := make([]byte, r.Intn(24))
		for i := range b {
			b[i] = []byte{71, 71, 1, 1, 0, 0, 0, 2, 3, byte(r.Int())}[r.Intn(10)]
		}
		payloads, s := read(b)
		checkSplit(t, b, payloads, s)
	}
}

// P7.5: Split of Join is the payloads.
func TestSplitOfJoin(t *testing.T) {
	r := rand.New(rand.NewSource(9))
	for i := range 300 {
		var payloads [][]byte
		for range []int{0, 1, 5, 999, 1000}[i%5] {
			payloads = append(payloads, body(1+r.Intn(1+r.Intn(api.MaxFmBody)), byte(r.Int())))
		}
		joined, e := frames.Join(payloads)
		if got, s := frames.Split(joined); e != api.OK || s != state() || !equal(got, payloads) {
			t.Fatalf("Split of Join of %d payloads: %d payloads, %.20v, %d", len(payloads), len(got), s, e)
		}
	}
}

// P7.5: what was read and Buf are the bytes, unless these are broken.
func TestJoinOfSplit(t *testing.T) {
	r := rand.New(rand.NewSource(10))
	whole := 0
	for range 20000 {
		b := randomStream(r)
		payloads, s := frames.Split(b)
		joined, e := frames.Join(payloads)
		if e != api.OK {
			t.Fatalf("Join of the payloads of %v: %d", b, e)
		}
		if s.Bad {
			if !bytes.HasPrefix(b, joined) || len(b) == len(joined) {
				t.Fatalf("Join of the payloads of %v, which is broken: %v", b, joined)
			}
			continue
		}
		whole++
		if !bytes.Equal(append(joined, s.Buf...), b) {
			t.Fatalf("Join of the payloads of %v: %v, and the rest %q", b, joined, s.Buf)
		}
	}
	if whole < 2000 {
		t.Errorf("only %d streams were not broken", whole)
	}
}

// P7.6: what was read before a stream is broken stays the same, whatever comes after that.
func TestAfterTheBreak(t *testing.T) {
	r := rand.New(rand.NewSource(11))
	broken := 0
	for range 20000 {
		b := randomStream(r)
		payloads, s := frames.Split(b)
		if !s.Bad {
			continue
		}
		broken++
		checkSplit(t, slices.Concat(b, randomStream(r)), payloads, bad)
	}
	if broken < 2000 {
		t.Errorf("only %d streams were broken", broken)
	}
}

// P7.3 and P7.6: with as many bytes as Need says a payload can be read, and with fewer of them none.
func TestNeed(t *testing.T) {
	long := frame(body(1024, 3))
	for many := range len(long) {
		checkFewer(t, long[:many], long[many:])
		if many >= 4 {
			checkEnough(t, long[:many], long[many:])
		}
	}
	for length := 1; length <= 1024; length += 7 {
		b := frame(body(length, 9))
		checkFewer(t, b[:4], b[4:])
		checkEnough(t, b[:4], b[4:])
		checkEnough(t, b[:3+length], b[3+length:])
	}
	// The length is not known yet: it may still become 1.
	short := frame([]byte("a"))
	for many := range len(short) {
		checkFewer(t, short[:many], append(short[many:], short...))
		checkEnough(t, short[:many], short[many:])
	}
}

// checkFewer checks that after buf, which is a state, fewer bytes of rest than Need says lead to no payload.
func checkFewer(t *testing.T, buf, rest []byte) {
	t.Helper()
	s := state(buf...)
	need, e := frames.Need(s)
	if e != api.OK || need < 1 || need > len(rest) {
		t.Fatalf("Need of %.20v: %d, %d", buf, need, e)
	}
	for many := range need {
		if _, payloads, e := frames.Feed(s, rest[:many]); e != api.OK || len(payloads) != 0 {
			t.Fatalf("Feed of %.20v with %d bytes, where %d are needed: %d payloads, %d", buf, many, need, len(payloads), e)
		}
	}
}

// checkEnough checks that after buf, which is a state, Need says as many bytes as rest has, and that these lead to a payload.
func checkEnough(t *testing.T, buf, rest []byte) {
	t.Helper()
	s := state(buf...)
	checkNeed(t, s, len(rest), api.OK)
	if next, payloads, e := frames.Feed(s, rest); e != api.OK || len(payloads) != 1 || next != state() {
		t.Fatalf("Feed of %.20v with %d bytes: %d payloads, %.20v, %d", buf, len(rest), len(payloads), next, e)
	}
}

// P7.7: results share no memory with each other, and are not changed by what is done to the bytes that were given.
func TestNewMemory(t *testing.T) {
	want := [][]byte{[]byte("ab"), []byte("c"), []byte("def")}
	b := append(stream(want...), 71, 1, 0, 2, 97)
	payloads, s := frames.Split(b)
	next, more, e := frames.Feed(s, []byte{98, 71})
	spoil(b)
	if !equal(payloads, want) || s != state(71, 1, 0, 2, 97) || next != state(71) || !equal(more, [][]byte{[]byte("ab")}) || e != api.OK {
		t.Errorf("after a change of the bytes: %v, %v, %v, %v", payloads, s, next, more)
	}
	for i, p := range payloads {
		spoil(p)
		for k, other := range payloads {
			if (k <= i) == bytes.Equal(other, want[k]) {
				t.Errorf("a change of payload %d has changed payload %d", i, k)
			}
		}
	}
}
