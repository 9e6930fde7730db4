package frames

import (
	"bytes"
	"iter"

	"groundling/api"
)

// Check returns whether s is a state.
func Check(s api.FmState) api.Errno {
	buf := []byte(s.Buf)
	switch {
	case s.Bad && len(buf) > 0:
		return api.ErrForm
	case !beginsFrame(buf) || hasFrame(buf):
		return api.ErrForm
	}
	return api.OK
}

// Feed reads b as what comes next in the stream that has led to the state s; it returns the state to which this leads, and the payloads.
func Feed(s api.FmState, b []byte) (next api.FmState, payloads [][]byte, e api.Errno) {
	if e := Check(s); e != api.OK {
		return api.FmState{}, nil, e
	}
	if s.Bad {
		return s, nil, api.OK
	}
	stream := append([]byte(s.Buf), b...)
	rest := stream
	for payload, after := range framesOf(stream) {
		payloads = append(payloads, bytes.Clone(payload))
		rest = after
	}
	if !beginsFrame(rest) {
		return api.FmState{Bad: true}, payloads, api.OK
	}
	return api.FmState{Buf: string(rest)}, payloads, api.OK
}

// Split reads a stream of which nothing has been read.
func Split(b []byte) (payloads [][]byte, s api.FmState) {
	s, payloads, _ = Feed(api.FmState{}, b)
	return payloads, s
}

// Need returns how many bytes must come at least before a payload can be read.
func Need(s api.FmState) (int, api.Errno) {
	e := Check(s)
	switch {
	case e != api.OK || s.Bad:
		return 0, e
	case len(s.Buf) < api.FmHead:
		return api.FmHead - len(s.Buf) + 1, api.OK
	}
	return api.FmHead + lengthIn([]byte(s.Buf)) - len(s.Buf), api.OK
}

// framesOf goes through the frames with which a stream begins: the payload of each, and the bytes after it.
func framesOf(stream []byte) iter.Seq2[[]byte, []byte] {
	return func(yield func(payload, after []byte) bool) {
		for rest := stream; hasFrame(rest); {
			end := api.FmHead + lengthIn(rest)
			payload := rest[api.FmHead:end]
			rest = rest[end:]
			if !yield(payload, rest) {
				return
			}
		}
	}
}

// hasFrame reports whether the stream begins with a whole frame.
func hasFrame(stream []byte) bool {
	return len(stream) >= api.FmHead && beginsFrame(stream) && len(stream)-api.FmHead >= lengthIn(stream)
}

// beginsFrame reports whether the stream may be the beginning of a frame, or of more: nothing but the bytes of a head tells, as many as there are.
func beginsFrame(stream []byte) bool {
	switch min(len(stream), api.FmHead) {
	case 4:
		if length := lengthIn(stream); length < 1 || length > api.MaxFmBody {
			return false
		}
		fallthrough
	case 3:
		if stream[2] > api.MaxFmBody>>8 {
			return false
		}
		fallthrough
	case 2:
		if stream[1] != api.FmVersion {
			return false
		}
		fallthrough
	case 1:
		if stream[0] != api.FmMagic {
			return false
		}
	}
	return true
}

// lengthIn returns the length that the stream's first four bytes give.
func lengthIn(stream []byte) int {
	head := [api.FmHead]byte(stream)
	return int(head[2])<<8 | int(head[3])
}
