package times_test

import (
	"math/bits"
	"math/rand"
	"slices"
	"testing"

	"groundling/api"
	"groundling/times"
)

// window is how many times the tests look at one by one: a set of them is a number with a bit for each.
const window = 64

// bases are the times from which on a window is looked at; the last one ends at MaxTime.
var bases = []int64{0, 1 << 32, api.MaxTime - window}

// span returns the span with these times.
func span(from, to int64) api.TmSpan { return api.TmSpan{From: from, To: to} }

// setOf returns the set of the times from base on that a span of the list has.
func setOf(base int64, l []api.TmSpan) uint64 {
	var set uint64
	for i := range int64(window) {
		for _, s := range l {
			if base+i >= s.From && base+i < s.To {
				set |= 1 << i
			}
		}
	}
	return set
}

// spansOf returns the spans of a set of times from base on: each begins and ends where the set does.
func spansOf(base int64, set uint64) []api.TmSpan {
	var l []api.TmSpan
	for i := int64(0); i < window; {
		if set>>i&1 == 0 {
			i++
			continue
		}
		from := i
		for i < window && set>>i&1 == 1 {
			i++
		}
		l = append(l, span(base+from, base+i))
	}
	return l
}

// shortSpans returns all spans of the first many times from base on.
func shortSpans(base, many int64) []api.TmSpan {
	var l []api.TmSpan
	for from := range many {
		for to := from + 1; to <= many; to++ {
			l = append(l, span(base+from, base+to))
		}
	}
	return l
}

// shortLists returns all lists of at most most of the spans.
func shortLists(spans []api.TmSpan, most int) [][]api.TmSpan {
	all := [][]api.TmSpan{nil}
	for from := 0; most > 0; most-- {
		to := len(all)
		for _, l := range all[from:to] {
			for _, s := range spans {
				all = append(all, append(slices.Clone(l), s))
			}
		}
		from = to
	}
	return all
}

// randomList returns up to most spans of the window from base on, none longer than longest.
func randomList(r *rand.Rand, base int64, most, longest int) []api.TmSpan {
	var l []api.TmSpan
	for range r.Intn(most + 1) {
		from := r.Intn(window)
		l = append(l, span(base+int64(from), base+int64(min(from+1+r.Intn(longest), window))))
	}
	return l
}

// apart returns many spans of two times each, with two times between one and the next, the first of them from first on.
func apart(first int64, many int) []api.TmSpan {
	var l []api.TmSpan
	for i := range int64(many) {
		l = append(l, span(first+4*i, first+4*i+2))
	}
	return l
}

// checkUnion checks Union and Total of the list, whose spans are in the window from base on.
func checkUnion(t *testing.T, base int64, l []api.TmSpan) {
	t.Helper()
	given := slices.Clone(l)
	set := setOf(base, l)
	got, e := times.Union(l)
	if !slices.Equal(got, spansOf(base, set)) || e != api.OK {
		t.Fatalf("Union of %v: %v, %d", l, got, e)
	}
	if n, e := times.Total(l); n != int64(bits.OnesCount64(set)) || e != api.OK {
		t.Fatalf("Total of %v: %d, %d", l, n, e)
	}
	if n, e := times.Total(got); n != int64(bits.OnesCount64(set)) || e != api.OK {
		t.Fatalf("Total of Union of %v: %d, %d", l, n, e)
	}
	if again, e := times.Union(got); !slices.Equal(again, got) || e != api.OK {
		t.Fatalf("Union of Union of %v: %v, %d", l, again, e)
	}
	if !slices.Equal(l, given) {
		t.Fatalf("%v has become %v", given, l)
	}
}

// checkMinus checks Minus of the lists, whose spans are in the window from base on.
func checkMinus(t *testing.T, base int64, a, b []api.TmSpan) {
	t.Helper()
	givenA, givenB := slices.Clone(a), slices.Clone(b)
	setA, setB := setOf(base, a), setOf(base, b)
	got, e := times.Minus(a, b)
	if !slices.Equal(got, spansOf(base, setA&^setB)) || e != api.OK {
		t.Fatalf("Minus of %v and %v: %v, %d", a, b, got, e)
	}
	if !slices.Equal(a, givenA) || !slices.Equal(b, givenB) {
		t.Fatalf("%v and %v have become %v and %v", givenA, givenB, a, b)
	}
}

// P5.2
func TestCheck(t *testing.T) {
	for _, x := range []struct {
		s api.TmSpan
		e api.Errno
	}{
		{span(0, 1), api.OK},
		{span(3, 9), api.OK},
		{span(0, api.MaxTime), api.OK},
		{span(api.MaxTime-1, api.MaxTime), api.OK},
		{span(0, 0), api.ErrForm},
		{span(1, 0), api.ErrForm},
		{span(5, 5), api.ErrForm},
		{span(9, 3), api.ErrForm},
		{span(api.MaxTime, api.MaxTime), api.ErrForm},
		{span(api.MaxTime, 0), api.ErrForm},
		{span(api.MaxTime, api.MaxTime-1), api.ErrForm},
	} {
		if e := times.Check(x.s); e != x.e {
			t.Errorf("Check of %v: %d, want %d", x.s, e, x.e)
		}
	}
	for _, n := range noTimes {
		for _, s := range []api.TmSpan{span(n, 5), span(5, n), span(n, 0), span(0, n), span(n, api.MaxTime), span(api.MaxTime, n), span(n, n), span(n, -3), span(-3, n)} {
			if e := times.Check(s); e != api.ErrRange {
				t.Errorf("Check of %v: %d", s, e)
			}
		}
	}
}

// P5.2
func TestMeet(t *testing.T) {
	for _, x := range []struct{ a, b, want api.TmSpan }{
		{span(0, 5), span(3, 9), span(3, 5)},
		{span(0, 5), span(5, 6), span(0, 0)},
		{span(0, 5), span(6, 9), span(0, 0)},
		{span(0, 5), span(4, 5), span(4, 5)},
		{span(0, 5), span(0, 5), span(0, 5)},
		{span(0, 9), span(3, 5), span(3, 5)},
		{span(0, 1), span(api.MaxTime-1, api.MaxTime), span(0, 0)},
		{span(0, api.MaxTime), span(api.MaxTime-1, api.MaxTime), span(api.MaxTime-1, api.MaxTime)},
		{span(0, api.MaxTime), span(0, api.MaxTime), span(0, api.MaxTime)},
	} {
		some := x.want != span(0, 0)
		if s, ok, e := times.Meet(x.a, x.b); s != x.want || ok != some || e != api.OK {
			t.Errorf("Meet of %v, %v: %v, %v, %d", x.a, x.b, s, ok, e)
		}
		if s, ok, e := times.Meet(x.b, x.a); s != x.want || ok != some || e != api.OK {
			t.Errorf("Meet of %v, %v: %v, %v, %d", x.b, x.a, s, ok, e)
		}
	}
}

// P5.2: all pairs of short spans.
func TestMeetOfAll(t *testing.T) {
	for _, base := range bases {
		spans := shortSpans(base, 9)
		for _, a := range spans {
			for _, b := range spans {
				var want api.TmSpan
				both := spansOf(base, setOf(base, []api.TmSpan{a})&setOf(base, []api.TmSpan{b}))
				if len(both) > 0 {
					want = both[0]
				}
				if s, ok, e := times.Meet(a, b); s != want || ok != (len(both) > 0) || e != api.OK {
					t.Errorf("Meet of %v, %v: %v, %v, %d", a, b, s, ok, e)
				}
			}
		}
	}
}

// P5.2: the error for a comes first.
func TestMeetErrors(t *testing.T) {
	good, form, low := span(0, 5), span(5, 5), span(-1, 5)
	for i, x := range []struct {
		a, b api.TmSpan
		e    api.Errno
	}{
		{good, form, api.ErrForm},
		{form, good, api.ErrForm},
		{good, low, api.ErrRange},
		{low, good, api.ErrRange},
		{form, low, api.ErrForm},
		{low, form, api.ErrRange},
		{good, span(3, -4), api.ErrRange},
		{good, span(7, 6), api.ErrForm},
	} {
		if s, ok, e := times.Meet(x.a, x.b); s != span(0, 0) || ok || e != x.e {
			t.Errorf("%d: Meet: %v, %v, %d, want %d", i, s, ok, e, x.e)
		}
	}
}

// P5.3
func TestUnion(t *testing.T) {
	for i, x := range []struct {
		l, want []api.TmSpan
		total   int64
	}{
		{nil, nil, 0},
		{[]api.TmSpan{}, nil, 0},
		{[]api.TmSpan{span(5, 7), span(0, 2), span(2, 3)}, []api.TmSpan{span(0, 3), span(5, 7)}, 5},
		{[]api.TmSpan{span(5, 7)}, []api.TmSpan{span(5, 7)}, 2},
		{[]api.TmSpan{span(5, 7), span(5, 7), span(5, 7)}, []api.TmSpan{span(5, 7)}, 2},
		{[]api.TmSpan{span(0, 9), span(3, 5)}, []api.TmSpan{span(0, 9)}, 9},
		{[]api.TmSpan{span(3, 5), span(0, 9), span(8, 10)}, []api.TmSpan{span(0, 10)}, 10},
		{[]api.TmSpan{span(0, 9), span(1, 2), span(8, 9), span(10, 11)}, []api.TmSpan{span(0, 9), span(10, 11)}, 10},
		{[]api.TmSpan{span(3, 4), span(1, 2)}, []api.TmSpan{span(1, 2), span(3, 4)}, 2},
		{[]api.TmSpan{span(0, api.MaxTime)}, []api.TmSpan{span(0, api.MaxTime)}, api.MaxTime},
		{[]api.TmSpan{span(7, api.MaxTime), span(0, 7), span(0, api.MaxTime)}, []api.TmSpan{span(0, api.MaxTime)}, api.MaxTime},
		{[]api.TmSpan{span(api.MaxTime-1, api.MaxTime), span(0, 1)}, []api.TmSpan{span(0, 1), span(api.MaxTime-1, api.MaxTime)}, 2},
	} {
		if got, e := times.Union(x.l); !slices.Equal(got, x.want) || e != api.OK {
			t.Errorf("%d: Union: %v, %d", i, got, e)
		}
		if n, e := times.Total(x.l); n != x.total || e != api.OK {
			t.Errorf("%d: Total: %d, %d", i, n, e)
		}
	}
}

// P5.3 and P5.7: a time is in Union exactly if it is in a span, for all short lists of short spans.
func TestUnionOfAll(t *testing.T) {
	for _, base := range bases {
		for _, l := range shortLists(shortSpans(base, 6), 3) {
			checkUnion(t, base, l)
		}
	}
}

// P5.3 and P5.7: lists of all lengths, and in another order.
func TestUnionOfMany(t *testing.T) {
	r := rand.New(rand.NewSource(5))
	for i := range 3000 {
		base := bases[i%len(bases)]
		l := randomList(r, base, api.MaxSpans, 1+i%12)
		if i%2 == 0 {
			l = randomList(r, base, 12, 1+i%8)
		}
		checkUnion(t, base, l)
		first, _ := times.Union(l)
		r.Shuffle(len(l), func(i, k int) { l[i], l[k] = l[k], l[i] })
		if other, e := times.Union(l); !slices.Equal(first, other) || e != api.OK {
			t.Fatalf("Union of %v, in another order before: %v, now %v, %d", l, first, other, e)
		}
	}
}

// P5.3
func TestMinus(t *testing.T) {
	whole := []api.TmSpan{span(0, api.MaxTime)}
	for i, x := range []struct{ a, b, want []api.TmSpan }{
		{nil, nil, nil},
		{nil, []api.TmSpan{span(0, 9)}, nil},
		{[]api.TmSpan{span(0, 9)}, []api.TmSpan{}, []api.TmSpan{span(0, 9)}},
		{[]api.TmSpan{span(0, 10)}, []api.TmSpan{span(3, 4), span(9, 20)}, []api.TmSpan{span(0, 3), span(4, 9)}},
		{[]api.TmSpan{span(0, 10)}, []api.TmSpan{span(9, 20), span(3, 4), span(3, 4)}, []api.TmSpan{span(0, 3), span(4, 9)}},
		{[]api.TmSpan{span(3, 5)}, []api.TmSpan{span(3, 5)}, nil},
		{[]api.TmSpan{span(3, 5)}, []api.TmSpan{span(0, 9)}, nil},
		{[]api.TmSpan{span(3, 5)}, []api.TmSpan{span(0, 3), span(5, 9)}, []api.TmSpan{span(3, 5)}},
		{[]api.TmSpan{span(3, 9)}, []api.TmSpan{span(0, 4)}, []api.TmSpan{span(4, 9)}},
		{[]api.TmSpan{span(3, 9)}, []api.TmSpan{span(8, 9)}, []api.TmSpan{span(3, 8)}},
		{[]api.TmSpan{span(3, 9)}, []api.TmSpan{span(3, 4)}, []api.TmSpan{span(4, 9)}},
		{[]api.TmSpan{span(5, 7), span(0, 2), span(2, 3)}, nil, []api.TmSpan{span(0, 3), span(5, 7)}},
		{[]api.TmSpan{span(0, 4), span(6, 9)}, []api.TmSpan{span(2, 7), span(1, 3)}, []api.TmSpan{span(0, 1), span(7, 9)}},
		{[]api.TmSpan{span(0, 5), span(3, 9)}, []api.TmSpan{span(4, 5)}, []api.TmSpan{span(0, 4), span(5, 9)}},
		{whole, []api.TmSpan{span(0, 1), span(api.MaxTime-1, api.MaxTime)}, []api.TmSpan{span(1, api.MaxTime-1)}},
		{whole, whole, nil},
	} {
		if got, e := times.Minus(x.a, x.b); !slices.Equal(got, x.want) || e != api.OK {
			t.Errorf("%d: Minus: %v, %d", i, got, e)
		}
	}
	rest, _ := times.Minus([]api.TmSpan{span(0, 10)}, []api.TmSpan{span(3, 4), span(9, 20)})
	if n, e := times.Total(rest); n != 8 || e != api.OK {
		t.Errorf("Total of what is left: %d, %d", n, e)
	}
}

// P5.3 and P5.7: a time is in Minus exactly if it is in a span of a, and in none of b, for all short lists of short spans.
func TestMinusOfAll(t *testing.T) {
	for _, base := range bases {
		lists := shortLists(shortSpans(base, 5), 2)
		for _, a := range lists {
			for _, b := range lists {
				checkMinus(t, base, a, b)
			}
		}
	}
}

// P5.3 and P5.7: lists of all lengths.
func TestMinusOfMany(t *testing.T) {
	r := rand.New(rand.NewSource(6))
	for i := range 3000 {
		base := bases[i%len(bases)]
		checkMinus(t, base, randomList(r, base, 30, 1+i%40), randomList(r, base, 1+i%40, 3))
		checkMinus(t, base, randomList(r, base, api.MaxSpans, 3), randomList(r, base, api.MaxSpans/(1+i%20), 1+i%2))
	}
}

// meetings returns the spans of the times that a and b have, made of all that Meet finds; neither list is long.
func meetings(t *testing.T, a, b []api.TmSpan) []api.TmSpan {
	t.Helper()
	var l []api.TmSpan
	for _, x := range a {
		for _, y := range b {
			if s, some, e := times.Meet(x, y); e != api.OK {
				t.Fatalf("Meet of %v, %v: %d", x, y, e)
			} else if some {
				l = append(l, s)
			}
		}
	}
	return l
}

// P5.8: what b takes away and what it leaves is what there was.
func TestTotalOfMinus(t *testing.T) {
	r := rand.New(rand.NewSource(7))
	for i := range 3000 {
		base := bases[i%len(bases)]
		a, b := randomList(r, base, 12, 1+i%20), randomList(r, base, 12, 1+i%15)
		rest, e := times.Minus(a, b)
		if e != api.OK {
			t.Fatalf("Minus of %v and %v: %d", a, b, e)
		}
		left, e1 := times.Total(rest)
		both, e2 := times.Total(meetings(t, a, b))
		all, e3 := times.Total(a)
		if left+both != all || e1 != api.OK || e2 != api.OK || e3 != api.OK {
			t.Fatalf("%v and %v: %d is left, %d in both, %d of a; %d, %d, %d", a, b, left, both, all, e1, e2, e3)
		}
	}
}

// P5.3: lists of 200 spans, and what is left of them, which may be more.
func TestLongLists(t *testing.T) {
	for _, first := range []int64{0, api.MaxTime - 1000} {
		l := apart(first, api.MaxSpans)
		slices.Reverse(l)
		if got, e := times.Union(l); !slices.Equal(got, apart(first, api.MaxSpans)) || e != api.OK {
			t.Errorf("Union of 200 spans: %d, %d", len(got), e)
		}
		if n, e := times.Total(l); n != 2*api.MaxSpans || e != api.OK {
			t.Errorf("Total of 200 spans: %d, %d", n, e)
		}
		if got, e := times.Minus(l, l); len(got) > 0 || e != api.OK {
			t.Errorf("Minus of 200 spans and the same: %d, %d", len(got), e)
		}
		var want []api.TmSpan
		for _, s := range apart(first, api.MaxSpans-1) {
			want = append(want, span(s.To, s.To+2))
		}
		last := apart(first, api.MaxSpans)[api.MaxSpans-1]
		if got, e := times.Minus([]api.TmSpan{span(first, last.To)}, l); !slices.Equal(got, want) || e != api.OK {
			t.Errorf("Minus of one span and 200: %d, %d", len(got), e)
		}
	}
	var long, cuts, want []api.TmSpan
	for i := range int64(api.MaxSpans) {
		long, cuts = append(long, span(9*i, 9*i+7)), append(cuts, span(9*i+3, 9*i+4))
		want = append(want, span(9*i, 9*i+3), span(9*i+4, 9*i+7))
	}
	if got, e := times.Minus(long, cuts); !slices.Equal(got, want) || e != api.OK {
		t.Errorf("Minus of 200 spans, each of which is cut: %d, %d", len(got), e)
	}
}

// checkListErrors checks that Union, Total and Minus do not accept l, and that Minus looks at it before it does at the spans of others.
func checkListErrors(t *testing.T, l []api.TmSpan, want api.Errno) {
	t.Helper()
	given := slices.Clone(l)
	if got, e := times.Union(l); len(got) > 0 || e != want {
		t.Errorf("Union of %d spans: %v, %d, want %d", len(l), got, e, want)
	}
	if n, e := times.Total(l); n != 0 || e != want {
		t.Errorf("Total of %d spans: %d, %d, want %d", len(l), n, e, want)
	}
	for _, other := range [][]api.TmSpan{nil, {span(0, 9)}, apart(0, api.MaxSpans), l} {
		if got, e := times.Minus(l, other); len(got) > 0 || e != want {
			t.Errorf("Minus of %d spans and %d: %v, %d, want %d", len(l), len(other), got, e, want)
		}
		if got, e := times.Minus(other, l); len(got) > 0 || e != want {
			t.Errorf("Minus of %d spans and %d: %v, %d, want %d", len(other), len(l), got, e, want)
		}
	}
	for _, other := range [][]api.TmSpan{{span(5, 5)}, {span(-1, 5)}} {
		if got, e := times.Minus(l, other); len(got) > 0 || e != want {
			t.Errorf("Minus of %d spans and %v: %v, %d, want %d", len(l), other, got, e, want)
		}
	}
	if !slices.Equal(l, given) {
		t.Errorf("%v has become %v", given, l)
	}
}

// P5.3: the first span that is none has the error.
func TestListErrors(t *testing.T) {
	good, form, low := span(0, 5), span(5, 5), span(-1, 5)
	checkListErrors(t, []api.TmSpan{form}, api.ErrForm)
	checkListErrors(t, []api.TmSpan{low}, api.ErrRange)
	checkListErrors(t, []api.TmSpan{good, form}, api.ErrForm)
	checkListErrors(t, []api.TmSpan{good, low}, api.ErrRange)
	checkListErrors(t, []api.TmSpan{form, low}, api.ErrForm)
	checkListErrors(t, []api.TmSpan{low, form}, api.ErrRange)
	checkListErrors(t, []api.TmSpan{good, form, good, low}, api.ErrForm)
	checkListErrors(t, []api.TmSpan{good, low, good, form}, api.ErrRange)
	checkListErrors(t, []api.TmSpan{good, span(9, 3)}, api.ErrForm)
	checkListErrors(t, []api.TmSpan{good, span(9, -3)}, api.ErrRange)
	checkListErrors(t, []api.TmSpan{{}}, api.ErrForm)
	checkListErrors(t, append(apart(0, api.MaxSpans-1), form), api.ErrForm)
	checkListErrors(t, append(apart(0, api.MaxSpans-1), low), api.ErrRange)
}

// P5.3: ErrLong comes first, also for spans that could be joined, or are none.
func TestTooLongLists(t *testing.T) {
	for _, s := range []api.TmSpan{span(0, 5), span(5, 5), span(-1, 5)} {
		checkListErrors(t, append(apart(0, api.MaxSpans), s), api.ErrLong)
		checkListErrors(t, append([]api.TmSpan{s}, apart(0, api.MaxSpans)...), api.ErrLong)
		checkListErrors(t, slices.Repeat([]api.TmSpan{s}, api.MaxSpans+1), api.ErrLong)
		checkListErrors(t, slices.Repeat([]api.TmSpan{s}, 5000), api.ErrLong)
		if got, e := times.Minus([]api.TmSpan{s}, apart(0, api.MaxSpans+1)); len(got) > 0 || e != api.ErrLong {
			t.Errorf("Minus of %v and 201 spans: %v, %d", s, got, e)
		}
	}
}

// P5.8: results are new memory.
func TestSpanMemory(t *testing.T) {
	a := []api.TmSpan{span(5, 7), span(0, 2), span(2, 3)}
	b := []api.TmSpan{span(20, 30)}
	results := []func() []api.TmSpan{
		func() []api.TmSpan { l, _ := times.Union(a); return l },
		func() []api.TmSpan { l, _ := times.Union(b); return l },
		func() []api.TmSpan { l, _ := times.Minus(a, b); return l },
		func() []api.TmSpan { l, _ := times.Minus(a, nil); return l },
		func() []api.TmSpan { l, _ := times.Minus(b, a); return l },
	}
	for i, result := range results {
		first := result()
		want := slices.Clone(first)
		clear(first[:cap(first)])
		if got := result(); !slices.Equal(got, want) || len(got) == 0 {
			t.Errorf("%d: %v, want %v", i, got, want)
		}
	}
	if a[0] != span(5, 7) || a[1] != span(0, 2) || a[2] != span(2, 3) || b[0] != span(20, 30) {
		t.Errorf("arguments have become %v and %v", a, b)
	}
}
