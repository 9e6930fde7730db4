package frames_test

import (
	"bytes"
	"slices"
	"testing"

	"groundling/api"
	"groundling/frames"
)

// body returns a payload of so many bytes, of all values, which begin with first.
func body(many int, first byte) []byte {
	b := make([]byte, many)
	for i := range b {
		b[i] = first + byte(i)
	}
	return b
}

// frame returns the frame of a payload, as the chapter defines it.
func frame(payload []byte) []byte {
	return append([]byte{71, 1, byte(len(payload) / 256), byte(len(payload) % 256)}, payload...)
}

// stream returns the frames of the payloads, as the chapter defines them.
func stream(payloads ...[]byte) []byte {
	var b []byte
	for _, p := range payloads {
		b = append(b, frame(p)...)
	}
	return b
}

// spoil changes all bytes of b, also those behind its end.
func spoil(b []byte) {
	b = b[:cap(b)]
	for i := range b {
		b[i] ^= 0xff
	}
}

// equal reports whether two lists of payloads are the same.
func equal(a, b [][]byte) bool {
	return slices.EqualFunc(a, b, bytes.Equal)
}

// clone returns the payloads in memory of their own.
func clone(payloads [][]byte) [][]byte {
	l := slices.Clone(payloads)
	for i, p := range l {
		l[i] = bytes.Clone(p)
	}
	return l
}

// checkFrame checks that Frame of the payload returns this.
func checkFrame(t *testing.T, payload, want []byte, e api.Errno) {
	t.Helper()
	given := bytes.Clone(payload)
	got, err := frames.Frame(payload)
	if !bytes.Equal(got, want) || err != e {
		t.Errorf("Frame of %d bytes: %.20v, %d, want %.20v, %d", len(payload), got, err, want, e)
	}
	spoil(got)
	if !bytes.Equal(payload, given) {
		t.Errorf("Frame of %d bytes shares memory with them", len(payload))
	}
}

// checkJoin checks that Join of the payloads returns this.
func checkJoin(t *testing.T, payloads [][]byte, want []byte, e api.Errno) {
	t.Helper()
	given := clone(payloads)
	got, err := frames.Join(payloads)
	if !bytes.Equal(got, want) || err != e {
		t.Errorf("Join of %d payloads: %.20v, %d, want %.20v, %d", len(payloads), got, err, want, e)
	}
	spoil(got)
	if !equal(payloads, given) {
		t.Errorf("Join of %d payloads shares memory with them", len(payloads))
	}
}

// P7.1
func TestFrame(t *testing.T) {
	checkFrame(t, []byte("ab"), []byte{71, 1, 0, 2, 97, 98}, api.OK)
	checkFrame(t, []byte{0}, []byte{71, 1, 0, 1, 0}, api.OK)
	checkFrame(t, []byte{71, 1, 0, 1, 0}, []byte{71, 1, 0, 5, 71, 1, 0, 1, 0}, api.OK)
	checkFrame(t, body(1023, 9), append([]byte{71, 1, 3, 255}, body(1023, 9)...), api.OK)
	checkFrame(t, body(1024, 9), append([]byte{71, 1, 4, 0}, body(1024, 9)...), api.OK)
}

// P7.1
func TestFrameOfAllLengths(t *testing.T) {
	for many := 1; many <= api.MaxFmBody; many++ {
		checkFrame(t, body(many, byte(many)), frame(body(many, byte(many))), api.OK)
	}
}

// P7.1
func TestFrameErrors(t *testing.T) {
	checkFrame(t, nil, nil, api.ErrForm)
	checkFrame(t, []byte{}, nil, api.ErrForm)
	checkFrame(t, make([]byte, 0, 9), nil, api.ErrForm)
	for _, many := range []int{1025, 1026, 1279, 1280, 2048, 65535, 65536, 65537, 1 << 20} {
		checkFrame(t, body(many, 1), nil, api.ErrLong)
	}
}

// P7.1
func TestJoin(t *testing.T) {
	checkJoin(t, nil, nil, api.OK)
	checkJoin(t, [][]byte{}, nil, api.OK)
	checkJoin(t, [][]byte{[]byte("ab")}, []byte{71, 1, 0, 2, 97, 98}, api.OK)
	checkJoin(t, [][]byte{[]byte("ab"), []byte("c")}, []byte{71, 1, 0, 2, 97, 98, 71, 1, 0, 1, 99}, api.OK)
	checkJoin(t, [][]byte{[]byte("c"), []byte("ab")}, []byte{71, 1, 0, 1, 99, 71, 1, 0, 2, 97, 98}, api.OK)
	long := body(1024, 7)
	checkJoin(t, [][]byte{long, long[:1], long[:1023]}, stream(long, long[:1], long[:1023]), api.OK)
}

// P7.1
func TestJoinOfMany(t *testing.T) {
	for _, many := range []int{1, 2, 999, 1000} {
		var payloads [][]byte
		for i := range many {
			payloads = append(payloads, body(1+i%40, byte(i)))
		}
		checkJoin(t, payloads, stream(payloads...), api.OK)
	}
	long := slices.Repeat([][]byte{body(1024, 3)}, 1000)
	checkJoin(t, long, stream(long...), api.OK)
}

// P7.1: too many payloads come before an error of one, and the error of the first one before all others.
func TestJoinErrors(t *testing.T) {
	good, none, long := []byte("a"), []byte{}, body(1025, 1)
	for _, x := range []struct {
		bad []byte
		e   api.Errno
	}{{nil, api.ErrForm}, {none, api.ErrForm}, {long, api.ErrLong}} {
		for _, many := range []int{1, 2, 3, 999, 1000} {
			for _, place := range []int{0, many / 2, many - 1} {
				payloads := slices.Repeat([][]byte{good}, many)
				payloads[place] = x.bad
				checkJoin(t, payloads, nil, x.e)
			}
		}
	}
	checkJoin(t, [][]byte{none, long}, nil, api.ErrForm)
	checkJoin(t, [][]byte{long, none}, nil, api.ErrLong)
	checkJoin(t, [][]byte{good, none, good, long}, nil, api.ErrForm)
	checkJoin(t, [][]byte{good, long, good, none}, nil, api.ErrLong)
	for _, many := range []int{1001, 1002, 5000} {
		checkJoin(t, slices.Repeat([][]byte{good}, many), nil, api.ErrLong)
		checkJoin(t, slices.Repeat([][]byte{none}, many), nil, api.ErrLong)
		checkJoin(t, make([][]byte, many), nil, api.ErrLong)
	}
}

// P7.7: payloads that share memory are joined as they are, and nothing is written behind their ends.
func TestPayloadsInOnePlace(t *testing.T) {
	all := body(60, 1)
	given := bytes.Clone(all)
	parts := [][]byte{all[:2], all[1:30], all[:2], all[59:]}
	want := stream(given[:2], given[1:30], given[:2], given[59:])
	checkJoin(t, parts, want, api.OK)
	checkFrame(t, all[:2], frame(given[:2]), api.OK)
	if !bytes.Equal(all, given) {
		t.Errorf("the bytes have become %v", all)
	}
}
