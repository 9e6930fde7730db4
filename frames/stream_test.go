package frames_test

import (
	"bytes"
	"slices"
	"testing"

	"groundling/api"
	"groundling/frames"
)

// bad is the state to which a broken stream has led.
var bad = api.FmState{Bad: true}

// state returns the state with these bytes.
func state(b ...byte) api.FmState { return api.FmState{Buf: string(b)} }

// breaks reports whether a stream that ends with the last of these bytes, which follow the frames, is broken by this byte.
func breaks(b []byte) bool {
	last := b[len(b)-1]
	switch len(b) {
	case 1:
		return last != 71
	case 2:
		return last != 1
	case 3:
		return last > 4
	case 4:
		length := int(b[2])*256 + int(b[3])
		return length == 0 || length > 1024
	}
	return false
}

// read reads a stream as the chapter defines it, byte by byte.
func read(stream []byte) (payloads [][]byte, s api.FmState) {
	var buf []byte
	for _, c := range stream {
		buf = append(buf, c)
		if breaks(buf) {
			return payloads, bad
		}
		if len(buf) > 4 && len(buf) == 4+int(buf[2])*256+int(buf[3]) {
			payloads = append(payloads, buf[4:])
			buf = nil
		}
	}
	return payloads, api.FmState{Buf: string(buf)}
}

// checkFeed checks that Feed of the state with b returns this.
func checkFeed(t *testing.T, s api.FmState, b []byte, want [][]byte, next api.FmState) {
	t.Helper()
	given := bytes.Clone(b)
	got, payloads, e := frames.Feed(s, b)
	if got != next || !equal(payloads, want) || e != api.OK {
		t.Errorf("Feed of %.20v with %.20v: %.20v, %.20v, %d, want %.20v, %.20v", s, b, got, payloads, e, next, want)
	}
	if e := frames.Check(got); e != api.OK {
		t.Errorf("Check of %.20v, to which Feed has led: %d", got, e)
	}
	spoilAll(payloads)
	if !bytes.Equal(b, given) {
		t.Errorf("Feed of %.20v with %.20v shares memory with the latter", s, given)
	}
}

// checkSplit checks that Split of b, and Feed of the state without bytes, return this.
func checkSplit(t *testing.T, b []byte, want [][]byte, s api.FmState) {
	t.Helper()
	given := bytes.Clone(b)
	payloads, got := frames.Split(b)
	if got != s || !equal(payloads, want) {
		t.Errorf("Split of %.20v: %.20v, %.20v, want %.20v, %.20v", b, payloads, got, want, s)
	}
	spoilAll(payloads)
	if !bytes.Equal(b, given) {
		t.Errorf("Split of %.20v shares memory with it", given)
	}
	checkFeed(t, api.FmState{}, b, want, s)
}

// spoilAll changes each payload, also behind its end, with all others still as they were.
func spoilAll(payloads [][]byte) {
	for _, p := range payloads {
		spoil(p)
	}
}

// checkNeed checks that Need of the state returns this.
func checkNeed(t *testing.T, s api.FmState, want int, e api.Errno) {
	t.Helper()
	if got, err := frames.Need(s); got != want || err != e {
		t.Errorf("Need of %.20v: %d, %d, want %d, %d", s, got, err, want, e)
	}
}

// The chapter's table of examples.
func TestExamples(t *testing.T) {
	checkFrame(t, []byte("ab"), []byte{71, 1, 0, 2, 97, 98}, api.OK)
	checkFrame(t, nil, nil, api.ErrForm)
	checkFrame(t, make([]byte, 1025), nil, api.ErrLong)
	checkSplit(t, []byte{71, 1, 0, 1, 97, 71, 1}, [][]byte{[]byte("a")}, state(71, 1))
	checkFeed(t, state(71, 1), []byte{0, 1, 98, 99}, [][]byte{[]byte("b")}, bad)
	for _, b := range [][]byte{{72}, {71, 2}, {71, 1, 5}, {71, 1, 0, 0}, {71, 1, 4, 1}} {
		checkSplit(t, b, nil, bad)
	}
	checkNeed(t, state(), 5, api.OK)
	checkNeed(t, state(71, 1), 3, api.OK)
	checkNeed(t, state(71, 1, 0, 9, 97), 8, api.OK)
}

// P7.2 and P7.3
func TestStates(t *testing.T) {
	long := frame(body(1024, 5))
	for _, x := range []struct {
		s    api.FmState
		need int
	}{
		{state(), 5},
		{state(71), 4},
		{state(71, 1), 3},
		{state(71, 1, 0), 2},
		{state(71, 1, 4), 2},
		{state(71, 1, 0, 1), 1},
		{state(71, 1, 0, 2), 2},
		{state(71, 1, 0, 2, 71), 1},
		{state(71, 1, 0, 255), 255},
		{state(71, 1, 1, 0), 256},
		{state(71, 1, 4, 0), 1024},
		{state(long[:5]...), 1023},
		{state(long[:1027]...), 1},
		{bad, 0},
	} {
		if e := frames.Check(x.s); e != api.OK {
			t.Errorf("Check of %.20v: %d", x.s, e)
		}
		checkNeed(t, x.s, x.need, api.OK)
		checkFeed(t, x.s, nil, nil, x.s)
		checkFeed(t, x.s, []byte{}, nil, x.s)
	}
}

// P7.2 and P7.3: states that are none.
func TestNoStates(t *testing.T) {
	long := frame(body(1024, 5))
	for _, buf := range [][]byte{
		{0}, {70}, {72}, {1}, {255},
		{71, 0}, {71, 2}, {71, 71}, {71, 255}, {72, 1}, {1, 71},
		{71, 1, 5}, {71, 1, 6}, {71, 1, 255}, {71, 2, 0}, {72, 1, 0}, {71, 2, 4},
		{71, 1, 0, 0}, {71, 1, 4, 1}, {71, 1, 4, 255}, {71, 1, 5, 0}, {71, 1, 255, 255}, {72, 1, 0, 1}, {71, 0, 0, 1},
		{71, 1, 0, 0, 97}, {71, 1, 4, 1, 97}, {72, 1, 0, 2, 97}, {71, 0, 0, 2, 97}, {71, 1, 5, 0, 97},
		{71, 1, 0, 1, 97}, {71, 1, 0, 1, 97, 71}, {71, 1, 0, 1, 97, 98}, {71, 1, 0, 2, 97, 98},
		stream([]byte("a"), []byte("b")),
		long, append(slices.Clone(long), 71),
		[]byte("hello"),
	} {
		checkNoState(t, api.FmState{Buf: string(buf)})
		checkNoState(t, api.FmState{Buf: string(buf), Bad: true})
	}
	for _, buf := range [][]byte{{71}, {71, 1}, {71, 1, 0}, {71, 1, 0, 2}, {71, 1, 0, 2, 97}, long[:1000]} {
		checkNoState(t, api.FmState{Buf: string(buf), Bad: true})
	}
}

// checkNoState checks that s is refused.
func checkNoState(t *testing.T, s api.FmState) {
	t.Helper()
	if e := frames.Check(s); e != api.ErrForm {
		t.Errorf("Check of %.20q, %v: %d", s.Buf, s.Bad, e)
	}
	checkNeed(t, s, 0, api.ErrForm)
	for _, b := range [][]byte{nil, {}, {71}, {72}, stream([]byte("a"))} {
		if next, payloads, e := frames.Feed(s, b); next != state() || len(payloads) != 0 || e != api.ErrForm {
			t.Errorf("Feed of %.20q, %v with %v: %v, %v, %d", s.Buf, s.Bad, b, next, payloads, e)
		}
	}
}

// P7.2 and P7.3: all bytes up to the second one, and after these of a frame all up to the fourth.
func TestCheckOfAllHeads(t *testing.T) {
	for a := range 256 {
		checkHead(t, byte(a))
		for b := range 256 {
			checkHead(t, byte(a), byte(b))
			checkHead(t, 71, 1, byte(a), byte(b))
			checkHead(t, 71, 1, byte(a), byte(b), 71)
		}
		checkHead(t, 71, 1, byte(a))
		checkHead(t, 71, byte(a), 0, 1)
		checkHead(t, byte(a), 1, 0, 1)
		checkHead(t, byte(a), 1, 4)
		checkHead(t, 71, byte(a), 4)
	}
}

// checkHead checks that the bytes are a state exactly if they lead to it.
func checkHead(t *testing.T, b ...byte) {
	t.Helper()
	payloads, s := read(b)
	checkSplit(t, b, payloads, s)
	if s == state(b...) && len(payloads) == 0 {
		checkFeed(t, s, nil, nil, s)
	} else if e := frames.Check(state(b...)); e != api.ErrForm {
		t.Errorf("Check of %v: %d", b, e)
	}
}

// P7.2
func TestSplit(t *testing.T) {
	a, b, long := []byte("a"), []byte{71, 1, 0, 1, 72}, body(1024, 200)
	for _, payloads := range [][][]byte{nil, {a}, {b}, {a, b}, {b, a}, {a, a, a}, {long}, {long, long[:1023], a, long}} {
		whole := stream(payloads...)
		checkSplit(t, whole, payloads, state())
		for _, rest := range [][]byte{{71}, {71, 1}, {71, 1, 0}, {71, 1, 4}, {71, 1, 4, 0}, {71, 1, 0, 2, 9}, frame(long)[:1027]} {
			checkSplit(t, append(slices.Clone(whole), rest...), payloads, state(rest...))
		}
	}
	checkSplit(t, []byte{}, nil, state())
	many := slices.Repeat([][]byte{a, long}, 1500)
	checkSplit(t, stream(many...), many, state())
}

// P7.2: a stream is broken by each of the first four bytes, and what comes after that is not looked at.
func TestBrokenStreams(t *testing.T) {
	before := [][][]byte{nil, {[]byte("a")}, {[]byte("a"), body(1024, 1)}, slices.Repeat([][]byte{[]byte("bc")}, 1100)}
	after := [][]byte{nil, {0}, {71}, {1, 0, 1, 97}, stream([]byte("a")), stream([]byte("a"), []byte("b"))}
	for _, broken := range [][]byte{
		{0}, {1}, {70}, {72}, {255}, {'g'},
		{71, 0}, {71, 2}, {71, 71}, {71, 255},
		{71, 1, 5}, {71, 1, 6}, {71, 1, 71}, {71, 1, 255},
		{71, 1, 0, 0}, {71, 1, 4, 1}, {71, 1, 4, 2}, {71, 1, 4, 255},
	} {
		for _, payloads := range before {
			for _, rest := range after {
				checkSplit(t, slices.Concat(stream(payloads...), broken, rest), payloads, bad)
			}
		}
		last := len(broken) - 1
		checkFeed(t, state(broken[:last]...), broken[last:], nil, bad)
	}
}

// P7.2: a stream that is broken stays so, whatever comes.
func TestBadStays(t *testing.T) {
	for _, b := range [][]byte{nil, {}, {71}, {0}, stream([]byte("a")), stream([]byte("a"), []byte("b"))} {
		checkFeed(t, bad, b, nil, bad)
	}
}

// P7.2
func TestLengths(t *testing.T) {
	for _, higher := range []int{0, 1, 2, 3, 4} {
		for lower := range 256 {
			length := higher*256 + lower
			if length == 0 || length > 1024 {
				checkSplit(t, []byte{71, 1, byte(higher), byte(lower), 97}, nil, bad)
				continue
			}
			payload := body(length, byte(lower))
			checkSplit(t, frame(payload), [][]byte{payload}, state())
			checkSplit(t, frame(payload)[:3+length], nil, state(frame(payload)[:3+length]...))
		}
	}
	// The third byte alone breaks the stream here.
	checkSplit(t, []byte{71, 1, 5}, nil, bad)
	checkSplit(t, []byte{71, 1, 5, 0}, nil, bad)
	checkSplit(t, append([]byte{71, 1, 4, 1}, body(1025, 0)...), nil, bad)
}

// P7.2
func TestFeed(t *testing.T) {
	checkFeed(t, state(), []byte{71}, nil, state(71))
	checkFeed(t, state(71), []byte{1, 0}, nil, state(71, 1, 0))
	checkFeed(t, state(71, 1, 0), []byte{2}, nil, state(71, 1, 0, 2))
	checkFeed(t, state(71, 1, 0, 2), []byte{97}, nil, state(71, 1, 0, 2, 97))
	checkFeed(t, state(71, 1, 0, 2, 97), []byte{98}, [][]byte{[]byte("ab")}, state())
	checkFeed(t, state(71, 1, 0, 2, 97), []byte{98, 71, 1, 0, 1, 99, 71}, [][]byte{[]byte("ab"), []byte("c")}, state(71))
	checkFeed(t, state(71, 1, 0, 2, 97), []byte{98, 71, 1, 0, 1, 99, 97}, [][]byte{[]byte("ab"), []byte("c")}, bad)
	checkFeed(t, state(71), []byte{71, 1, 0, 1, 97}, nil, bad)
}
