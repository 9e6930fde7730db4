package ints_test

import (
	"bytes"
	"encoding/binary"
	"math"
	"slices"
	"testing"

	"groundling/api"
	"groundling/ints"
)

// edges returns the numbers around all powers of 2, and some others, ascending.
func edges() []uint64 {
	l := []uint64{0, 0x0123456789abcdef, 0xfedcba9876543210, 0xaaaaaaaaaaaaaaaa, 0x8000000000000080, 1000000007}
	for k := range 64 {
		for d := range uint64(5) {
			l = append(l, uint64(1)<<k+d-2)
		}
	}
	slices.Sort(l)
	return slices.Compact(l)
}

// signedEdges returns edges as signed numbers.
func signedEdges() []int64 {
	var l []int64
	for _, n := range edges() {
		l = append(l, int64(n))
	}
	return l
}

// sequences returns all sequences of at most most of the bytes of the alphabet.
func sequences(alphabet []byte, most int) [][]byte {
	all := [][]byte{{}}
	for from := 0; most > 0; most-- {
		to := len(all)
		for _, s := range all[from:to] {
			for _, c := range alphabet {
				all = append(all, append(slices.Clone(s), c))
			}
		}
		from = to
	}
	return all
}

// badWidths are the widths that big-endian bytes cannot have.
var badWidths = []int{math.MinInt, -8, -1, 0, 9, 16, 64, 1 << 32, 1<<61 + 1, math.MaxInt}

// P2.1
func TestPut(t *testing.T) {
	for i, x := range []struct {
		b     []byte
		n     uint64
		width int
		want  []byte
	}{
		{nil, 258, 2, []byte{1, 2}},
		{nil, 258, 4, []byte{0, 0, 1, 2}},
		{[]byte{}, 0, 1, []byte{0}},
		{nil, 255, 1, []byte{255}},
		{[]byte{7, 8}, 0, 3, []byte{7, 8, 0, 0, 0}},
		{[]byte{9}, 256, 2, []byte{9, 1, 0}},
		{[]byte{0}, 0x010203, 3, []byte{0, 1, 2, 3}},
		{nil, 0x0102030405, 5, []byte{1, 2, 3, 4, 5}},
		{nil, 0x010203040506, 6, []byte{1, 2, 3, 4, 5, 6}},
		{nil, 0x01020304050607, 7, []byte{1, 2, 3, 4, 5, 6, 7}},
		{nil, 0x0102030405060708, 8, []byte{1, 2, 3, 4, 5, 6, 7, 8}},
		{[]byte{1}, math.MaxUint64, 8, []byte{1, 255, 255, 255, 255, 255, 255, 255, 255}},
	} {
		if got, e := ints.Put(x.b, x.n, x.width); !bytes.Equal(got, x.want) || e != api.OK {
			t.Errorf("%d: Put: %v, %d", i, got, e)
		}
	}
}

// P2.1 and P2.7: each number is put into each width in which it fits, and into no other one.
func TestPutAndGet(t *testing.T) {
	for _, n := range edges() {
		all := binary.BigEndian.AppendUint64(nil, n)
		for width := 1; width <= 8; width++ {
			got, e := ints.Put([]byte{3}, n, width)
			if slices.Max(append(all[:8-width:8-width], 0)) > 0 {
				if got != nil || e != api.ErrRange {
					t.Errorf("Put of %d in %d: %v, %d", n, width, got, e)
				}
				continue
			}
			if !bytes.Equal(got, append([]byte{3}, all[8-width:]...)) || e != api.OK {
				t.Errorf("Put of %d in %d: %v, %d", n, width, got, e)
			}
			if back, rest, e := ints.Get(append(got[1:], 5, 6), width); back != n || !bytes.Equal(rest, []byte{5, 6}) || e != api.OK {
				t.Errorf("Get %d of Put of %d: %d, %v, %d", width, n, back, rest, e)
			}
		}
	}
}

// P2.1
func TestPutErrors(t *testing.T) {
	for _, width := range badWidths {
		for _, n := range []uint64{0, 1, 300, math.MaxUint64} {
			if b, e := ints.Put([]byte{1, 2}, n, width); b != nil || e != api.ErrRange {
				t.Errorf("Put of %d in %d: %v, %d", n, width, b, e)
			}
		}
	}
	if b, e := ints.Put(nil, 258, 1); b != nil || e != api.ErrRange {
		t.Errorf("Put of 258 in 1: %v, %d", b, e)
	}
}

// P2.1
func TestGet(t *testing.T) {
	b := []byte{1, 2, 3}
	if n, rest, e := ints.Get(b, 2); n != 258 || !bytes.Equal(rest, b[2:]) || e != api.OK {
		t.Errorf("Get 2: %d, %v, %d", n, rest, e)
	}
	if n, rest, e := ints.Get(b, 3); n != 0x010203 || len(rest) > 0 || e != api.OK {
		t.Errorf("Get 3: %d, %v, %d", n, rest, e)
	}
	for width := 4; width <= 8; width++ {
		if n, rest, e := ints.Get(b, width); n != 0 || rest != nil || e != api.ErrMore {
			t.Errorf("Get %d: %d, %v, %d", width, n, rest, e)
		}
	}
	if n, rest, e := ints.Get(nil, 1); n != 0 || rest != nil || e != api.ErrMore {
		t.Errorf("Get of no bytes: %d, %v, %d", n, rest, e)
	}
	for _, width := range badWidths {
		for _, b := range [][]byte{nil, b, make([]byte, 20)} {
			if n, rest, e := ints.Get(b, width); n != 0 || rest != nil || e != api.ErrRange {
				t.Errorf("Get %d of %d bytes: %d, %v, %d", width, len(b), n, rest, e)
			}
		}
	}
}

// P2.7: what Get accepts is what Put writes.
func TestPutOfGet(t *testing.T) {
	for _, b := range sequences([]byte{0, 1, 127, 128, 255}, 5) {
		for width := 1; width <= 8; width++ {
			n, rest, e := ints.Get(b, width)
			if (e == api.OK) != (len(b) >= width) {
				t.Fatalf("Get %d of %v: %d", width, b, e)
			}
			if e != api.OK {
				continue
			}
			if got, e := ints.Put(nil, n, width); !bytes.Equal(append(got, rest...), b) || e != api.OK {
				t.Fatalf("Put of Get %d of %v: %v, %d", width, b, got, e)
			}
		}
	}
}

// P2.8
func TestPutOrder(t *testing.T) {
	for width := 1; width <= 8; width++ {
		var last []byte
		for _, n := range edges() {
			b, e := ints.Put(nil, n, width)
			if e != api.OK {
				break
			}
			if last != nil && bytes.Compare(last, b) >= 0 {
				t.Errorf("%v in %d is not before %v, of %d", last, width, b, n)
			}
			last = b
		}
	}
}

// P2.2
func TestVar(t *testing.T) {
	for n, want := range map[uint64][]byte{
		0:              {0},
		1:              {1},
		127:            {127},
		128:            {128, 1},
		129:            {129, 1},
		300:            {172, 2},
		16383:          {255, 127},
		16384:          {128, 128, 1},
		1<<63 - 1:      {255, 255, 255, 255, 255, 255, 255, 255, 127},
		1 << 63:        {128, 128, 128, 128, 128, 128, 128, 128, 128, 1},
		math.MaxUint64: {255, 255, 255, 255, 255, 255, 255, 255, 255, 1},
	} {
		if got := ints.PutVar(nil, n); !bytes.Equal(got, want) {
			t.Errorf("PutVar of %d: %v", n, got)
		}
		if got := ints.PutVar([]byte{128, 0}, n); !bytes.Equal(got, append([]byte{128, 0}, want...)) {
			t.Errorf("PutVar of %d after two bytes: %v", n, got)
		}
		if got, rest, e := ints.GetVar(append(want, 9, 128)); got != n || !bytes.Equal(rest, []byte{9, 128}) || e != api.OK {
			t.Errorf("GetVar of %v: %d, %v, %d", want, got, rest, e)
		}
	}
}

// P2.2
func TestGetVarErrors(t *testing.T) {
	after := func(many int, c byte, last ...byte) []byte {
		return append(bytes.Repeat([]byte{c}, many), last...)
	}
	for i, x := range []struct {
		b []byte
		e api.Errno
	}{
		{nil, api.ErrMore},
		{[]byte{}, api.ErrMore},
		{[]byte{172}, api.ErrMore},
		{[]byte{128, 128}, api.ErrMore},
		{after(9, 128), api.ErrMore},
		{after(9, 255), api.ErrMore},
		{after(9, 255, 2), api.ErrRange},
		{after(9, 128, 2), api.ErrRange},
		{after(9, 128, 127), api.ErrRange},
		{after(9, 128, 128), api.ErrRange},
		{after(9, 255, 255), api.ErrRange},
		{after(9, 128, 128, 0), api.ErrRange},
		{after(30, 255), api.ErrRange},
		{after(9, 255, 0), api.ErrForm},
		{after(9, 255, 0, 1), api.ErrForm},
		{after(8, 255, 0), api.ErrForm},
		{[]byte{128, 0}, api.ErrForm},
		{[]byte{255, 0, 7}, api.ErrForm},
		{[]byte{129, 128, 0}, api.ErrForm},
	} {
		if n, rest, e := ints.GetVar(x.b); n != 0 || rest != nil || e != x.e {
			t.Errorf("%d: GetVar: %d, %v, %d, want %d", i, n, rest, e, x.e)
		}
	}
	if n, rest, e := ints.GetVar([]byte{0, 0}); n != 0 || !bytes.Equal(rest, []byte{0}) || e != api.OK {
		t.Errorf("GetVar of 0, 0: %d, %v, %d", n, rest, e)
	}
	if n, rest, e := ints.GetVar([]byte{172, 2, 9}); n != 300 || !bytes.Equal(rest, []byte{9}) || e != api.OK {
		t.Errorf("GetVar of 172, 2, 9: %d, %v, %d", n, rest, e)
	}
}

// errorOfVar returns the error that the promise P2.2 names for b.
func errorOfVar(b []byte) api.Errno {
	end := slices.IndexFunc(b, func(c byte) bool { return c < 128 })
	switch {
	case end < 0 && len(b) < 10:
		return api.ErrMore
	case (end < 0 || end >= 9) && b[9] > 1:
		return api.ErrRange
	case end > 0 && b[end] == 0:
		return api.ErrForm
	}
	return api.OK
}

// P2.2 and P2.7: what GetVar accepts is what PutVar writes, and all else has the error that it is to have.
func TestPutVarOfGetVar(t *testing.T) {
	for _, first := range []int{0, 6, 7, 8, 9} {
		for _, s := range sequences([]byte{0, 1, 2, 127, 128, 129, 255}, 4) {
			b := append(bytes.Repeat([]byte{200}, first), s...)
			n, rest, e := ints.GetVar(b)
			if e != errorOfVar(b) {
				t.Fatalf("GetVar of %v: %d, want %d", b, e, errorOfVar(b))
			}
			if e != api.OK {
				if n != 0 || rest != nil {
					t.Fatalf("GetVar of %v: %d, %v with an error", b, n, rest)
				}
				continue
			}
			if got := ints.PutVar(nil, n); !bytes.Equal(append(got, rest...), b) {
				t.Fatalf("PutVar of GetVar of %v: %v", b, got)
			}
		}
	}
}

// P2.2, P2.7 and P2.8
func TestGetVarOfPutVar(t *testing.T) {
	last := 0
	for _, n := range edges() {
		b := ints.PutVar(nil, n)
		if !bytes.Equal(b, binary.AppendUvarint(nil, n)) {
			t.Errorf("PutVar of %d: %v", n, b)
		}
		if len(b) < last || len(b) > api.MaxVar {
			t.Errorf("PutVar of %d has %d bytes, that of a lesser number %d", n, len(b), last)
		}
		last = len(b)
		if got, rest, e := ints.GetVar(b); got != n || len(rest) > 0 || e != api.OK {
			t.Errorf("GetVar of PutVar of %d: %d, %v, %d", n, got, rest, e)
		}
		for i := range b {
			if got, rest, e := ints.GetVar(b[:i]); got != 0 || rest != nil || e != api.ErrMore {
				t.Errorf("GetVar of %d bytes of %v: %d, %v, %d", i, b, got, rest, e)
			}
		}
	}
}

// P2.10: neither b nor the memory after it is changed, and what is put shares none with b.
func TestPutMemory(t *testing.T) {
	puts := []func(b []byte) []byte{
		func(b []byte) []byte { l, _ := ints.Put(b, 0x0909090909090909, 8); return l },
		func(b []byte) []byte { l, _ := ints.Put(b, 9, 1); return l },
		func(b []byte) []byte { return ints.PutVar(b, 9) },
		func(b []byte) []byte { return ints.PutVar(b, math.MaxUint64) },
	}
	for i, put := range puts {
		for size := range 20 {
			all := bytes.Repeat([]byte{5}, 40)
			kept := slices.Clone(all)
			got := put(all[:size])
			if len(got) <= size || !bytes.Equal(got[:size], kept[:size]) || !bytes.Equal(all, kept) {
				t.Errorf("%d: after %d bytes: %v, and b is %v", i, size, got, all)
			}
			for k := range got {
				got[k] = 77
			}
			if !bytes.Equal(all, kept) {
				t.Errorf("%d: what is put after %d bytes shares memory with b", i, size)
			}
		}
	}
}

// P2.10
func TestGetMemory(t *testing.T) {
	b := []byte{172, 2, 9, 128, 0, 255, 255, 255, 255, 1}
	kept := slices.Clone(b)
	for size := range len(b) + 1 {
		for width := range 10 {
			ints.Get(b[:size], width)
		}
		ints.GetVar(b[size:])
	}
	if !bytes.Equal(b, kept) {
		t.Errorf("b is %v", b)
	}
}
