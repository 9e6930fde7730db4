package heaps_test

import (
	"math"
	"math/rand"
	"slices"
	"testing"

	"groundling/api"
	"groundling/heaps"
)

// checkLoad checks that Load of the state returns this error, and no queue with one.
func checkLoad[T any](t *testing.T, less func(a, b T) bool, s api.HpState[T], e api.Errno) {
	t.Helper()
	q, got := heaps.Load(less, s)
	if got != e || (q == nil) != (e != api.OK) {
		t.Errorf("Load of %d values, the next handle being %d: %d, want %d", len(s.Items), s.Next, got, e)
	}
}

// P6.1: orders that are nil, whatever the state is.
func TestNoOrder(t *testing.T) {
	if q := heaps.New[int](nil); q != nil {
		t.Errorf("New of nil: %v", q)
	}
	if q := heaps.New[any](nil); q != nil {
		t.Errorf("New of nil: %v", q)
	}
	for _, s := range []api.HpState[int]{
		{}, state[int](1), state[int](0), state[int](-1), state(2, item(1, 5)), state(2, item(1, 5), item(1, 5)), state(3, item(2, 5), item(1, 5)), counted(5001, 5000), counted(5002, 5001), counted(0, 5001),
	} {
		checkLoad(t, nil, s, api.ErrNil)
	}
	checkNone(t, heaps.New[int](nil))
}

// P6.1
func TestLoadAndSave(t *testing.T) {
	for _, s := range []api.HpState[int]{
		state[int](1),
		{Next: 1, Items: []api.HpItem[int]{}},
		state[int](2),
		state[int](api.MaxHandle - 1),
		state[int](api.MaxHandle),
		state(2, item(1, 5)),
		state(9, item(1, 5)),
		state(9, item(8, 5)),
		state(9, item(8, 5), item(7, 6), item(1, 7)),
		state(9, item(1, 5), item(7, 5), item(8, 5)),
		state(9, item(8, math.MinInt), item(1, 0), item(2, 0), item(7, math.MaxInt)),
		state(api.MaxHandle, item(api.MaxHandle-1, 1), item(1, 2), item(api.MaxHandle-2, 2)),
		counted(5001, 5000),
		counted(api.MaxHandle, 5000),
		counted(5000, 4999),
	} {
		q := load(t, below, s)
		checkState(t, q, s.Next, s.Items...)
		if got := popped(t, q); !slices.Equal(got, s.Items) {
			t.Errorf("popped of %v: %v", s, got)
		}
		checkState(t, q, s.Next)
	}
}

// P6.1
func TestLoadErrors(t *testing.T) {
	for _, x := range []struct {
		s api.HpState[int]
		e api.Errno
	}{
		{api.HpState[int]{}, api.ErrRange},
		{state[int](0), api.ErrRange},
		{state[int](-1), api.ErrRange},
		{state[int](math.MinInt64), api.ErrRange},
		{state[int](api.MaxHandle + 1), api.ErrRange},
		{state[int](math.MaxInt64), api.ErrRange},
		{state(math.MinInt64, item(1, 5)), api.ErrRange},
		{state(api.MaxHandle+1, item(1, 5)), api.ErrRange},
		{state(1, item(1, 5)), api.ErrRange},
		{state(1, item(0, 5)), api.ErrRange},
		{state(2, item(0, 5)), api.ErrRange},
		{state(2, item(-1, 5)), api.ErrRange},
		{state(2, item(2, 5)), api.ErrRange},
		{state(2, item(3, 5)), api.ErrRange},
		{state(2, item(math.MinInt64, 5)), api.ErrRange},
		{state(2, item(math.MaxInt64, 5)), api.ErrRange},
		{state(2, item(1, 5), item(2, 5)), api.ErrRange},
		{state(2, item(1, 5), item(0, 6)), api.ErrRange},
		{state(api.MaxHandle, item(api.MaxHandle, 5)), api.ErrRange},
		{state(api.MaxHandle, item(api.MaxHandle+1, 5)), api.ErrRange},
		{state(9, item(4, 5), item(4, 5)), api.ErrTwice},
		{state(9, item(4, 5), item(4, 6)), api.ErrTwice},
		{state(9, item(4, 5), item(3, 6), item(4, 7)), api.ErrTwice},
		{state(9, item(1, 5), item(4, 6), item(4, 7)), api.ErrTwice},
		{state(9, item(1, 6), item(2, 5)), api.ErrForm},
		{state(9, item(2, 5), item(1, 5)), api.ErrForm},
		{state(9, item(1, 5), item(2, 7), item(3, 6)), api.ErrForm},
		{state(9, item(1, 5), item(3, 5), item(2, 5)), api.ErrForm},
		{state(9, item(1, 5), item(2, 5), item(3, 4)), api.ErrForm},
		// A heap that is not in order.
		{state(9, item(1, 1), item(2, 3), item(3, 2), item(4, 4)), api.ErrForm},
	} {
		checkLoad(t, below, x.s, x.e)
	}
	checkLoad(t, tens, state(9, item(2, 30), item(1, 39)), api.ErrForm)
	checkLoad(t, tens, state(9, item(1, 39), item(2, 30)), api.OK)
}

// P6.1: of several errors the first one of the promise is returned.
func TestLoadErrorsInOrder(t *testing.T) {
	long := counted(5002, 5001)
	checkLoad(t, below, long, api.ErrLong)
	for _, next := range []int64{0, -1, 5001, api.MaxHandle + 1} {
		long.Next = next
		checkLoad(t, below, long, api.ErrLong)
	}
	long.Items[7], long.Items[9] = long.Items[8], item(-1, 2)
	checkLoad(t, below, long, api.ErrLong)
	checkLoad(t, below, counted(1<<20, 1<<19), api.ErrLong)
	for _, x := range []struct {
		s api.HpState[int]
		e api.Errno
	}{
		{state(0, item(4, 5), item(4, 5)), api.ErrRange},
		{state(0, item(4, 6), item(5, 5)), api.ErrRange},
		{state(9, item(4, 5), item(4, 5), item(9, 5)), api.ErrRange},
		{state(9, item(4, 6), item(5, 5), item(0, 5)), api.ErrRange},
		{state(9, item(4, 6), item(4, 5)), api.ErrTwice},
		{state(9, item(4, 6), item(3, 5), item(8, 9), item(8, 9)), api.ErrTwice},
	} {
		checkLoad(t, below, x.s, x.e)
	}
}

// P6.1 and P6.2: 4999, 5000 and 5001 values.
func TestLoadMany(t *testing.T) {
	for _, next := range []int64{5001, api.MaxHandle - 1} {
		q := load(t, below, counted(next, 4999))
		checkPush(t, q, 0, next, api.OK)
		checkPush(t, q, 0, 0, api.ErrFull)
		checkPeek(t, q, next, 0, api.OK)
		q = load(t, below, counted(next, 5000))
		checkPush(t, q, 0, 0, api.ErrFull)
		checkPeek(t, q, 1, 1, api.OK)
	}
	checkLoad(t, below, counted(6000, 5001), api.ErrLong)
}

// R3 and P6.8: neither the state that is loaded nor the one that was saved is the queue's own.
func TestStateIsNotKept(t *testing.T) {
	s := state(9, item(3, 1), item(1, 2), item(2, 2))
	given := slices.Clone(s.Items)
	q := load(t, below, s)
	s.Items[0], s.Items[1] = item(7, 70), item(8, 80)
	checkState(t, q, 9, given...)
	saved, again := q.Save(), q.Save()
	saved.Items[0], saved.Items[2] = item(7, 70), item(8, 80)
	_ = append(saved.Items[:1], item(5, 50))
	if !slices.Equal(again.Items, given) {
		t.Errorf("another state has become %v", again.Items)
	}
	checkState(t, q, 9, given...)
	before := slices.Clone(s.Items)
	checkPop(t, q, 3, 1, api.OK)
	checkSet(t, q, 1, 3, api.OK)
	checkPush(t, q, 0, 9, api.OK)
	if !slices.Equal(s.Items, before) || !slices.Equal(again.Items, given) {
		t.Errorf("the states have become %v and %v", s.Items, again.Items)
	}
}

// P6.1 and P6.8: Load changes no state, whether it takes it or not.
func TestLoadLeavesTheState(t *testing.T) {
	for _, s := range []api.HpState[int]{state(9, item(3, 1), item(1, 2), item(2, 2)), state(9, item(3, 9), item(1, 7), item(2, 8)), state(9, item(3, 9), item(3, 7), item(2, 8)), state(0, item(3, 9), item(2, 8))} {
		given := slices.Clone(s.Items)
		heaps.Load(below, s)
		if !slices.Equal(s.Items, given) {
			t.Errorf("%v has become %v", given, s.Items)
		}
	}
}

// P6.1: all states of up to three values with small handles.
func TestLoadOfAll(t *testing.T) {
	var all []api.HpItem[int]
	for h := int64(-1); h <= 5; h++ {
		for v := range 3 {
			all = append(all, item(h, v))
		}
	}
	for next := int64(-1); next <= 5; next++ {
		checkLoadAs(t, state[int](next))
		for _, a := range all {
			checkLoadAs(t, state(next, a))
			for _, b := range all {
				checkLoadAs(t, state(next, a, b))
				for _, c := range all {
					checkLoadAs(t, state(next, a, b, c))
				}
			}
		}
	}
}

// checkLoadAs checks Load of a state of small numbers against the promise.
func checkLoadAs(t *testing.T, s api.HpState[int]) {
	t.Helper()
	e := api.OK
	sorted := newModel(below)
	sorted.items = slices.Clone(s.Items)
	sorted.order()
	handles := map[int64]bool{}
	for _, i := range s.Items {
		handles[i.Handle] = true
	}
	switch {
	case s.Next < 1 || slices.ContainsFunc(s.Items, func(i api.HpItem[int]) bool { return i.Handle < 1 || i.Handle > s.Next-1 }):
		e = api.ErrRange
	case len(handles) < len(s.Items):
		e = api.ErrTwice
	case !slices.Equal(sorted.items, s.Items):
		e = api.ErrForm
	}
	q, got := heaps.Load(below, s)
	if got != e || (q == nil) != (e != api.OK) {
		t.Fatalf("Load of %v: %v, %d, want %d", s, q, got, e)
	}
	if saved := q.Save(); e == api.OK && (saved.Next != s.Next || !slices.Equal(saved.Items, s.Items)) {
		t.Fatalf("Save of Load of %v: %v", s, saved)
	}
}

// P6.7: the queue that Load of Save returns goes on alike.
func TestLoadOfSave(t *testing.T) {
	r := rand.New(rand.NewSource(1))
	for range 200 {
		q := heaps.New(tens)
		for range r.Intn(60) {
			change(r, q)
		}
		p := load(t, tens, q.Save())
		seed := r.Int63()
		one, other := rand.New(rand.NewSource(seed)), rand.New(rand.NewSource(seed))
		for range 60 {
			if a, b := change(one, q), change(other, p); a != b {
				t.Fatalf("%s, but of what was loaded %s", a, b)
			}
			a, b := q.Save(), p.Save()
			if a.Next != b.Next || !slices.Equal(a.Items, b.Items) {
				t.Fatalf("%v, but of what was loaded %v", a, b)
			}
		}
	}
}
