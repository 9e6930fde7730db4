package heaps_test

import (
	"math"
	"slices"
	"testing"

	"groundling/api"
	"groundling/heaps"
)

// below is the order of numbers.
func below(a, b int) bool { return a < b }

// tens is the order of numbers by their tens: numbers with the same ones are alike.
func tens(a, b int) bool { return a/10 < b/10 }

// item returns a value with its handle.
func item[T any](handle int64, v T) api.HpItem[T] { return api.HpItem[T]{Handle: handle, Value: v} }

// state returns the state with these values.
func state[T any](next int64, items ...api.HpItem[T]) api.HpState[T] {
	return api.HpState[T]{Next: next, Items: items}
}

// counted returns the state of many values, each its handle, with the next handle.
func counted(next int64, many int) api.HpState[int] {
	s := api.HpState[int]{Next: next}
	for i := range many {
		s.Items = append(s.Items, item(int64(i+1), i+1))
	}
	return s
}

// load returns the queue with the state.
func load[T any](t *testing.T, less func(a, b T) bool, s api.HpState[T]) *heaps.Queue[T] {
	t.Helper()
	q, e := heaps.Load(less, s)
	if q == nil || e != api.OK {
		t.Fatalf("Load of %d values, the next handle being %d: %d", len(s.Items), s.Next, e)
	}
	return q
}

// filled returns a queue of the values, whose handles count from 1 on.
func filled[T any](t *testing.T, less func(a, b T) bool, l ...T) *heaps.Queue[T] {
	t.Helper()
	q := heaps.New(less)
	for i, v := range l {
		checkPush(t, q, v, int64(i+1), api.OK)
	}
	return q
}

// checkPush checks Push of v.
func checkPush[T any](t *testing.T, q *heaps.Queue[T], v T, handle int64, e api.Errno) {
	t.Helper()
	if h, got := q.Push(v); h != handle || got != e {
		t.Fatalf("Push of %v: %d, %d, want %d, %d", v, h, got, handle, e)
	}
}

// checkSet checks Set of a handle to v.
func checkSet[T any](t *testing.T, q *heaps.Queue[T], handle int64, v T, e api.Errno) {
	t.Helper()
	if got := q.Set(handle, v); got != e {
		t.Fatalf("Set of %d to %v: %d, want %d", handle, v, got, e)
	}
}

// checkGet checks Get of a handle.
func checkGet[T comparable](t *testing.T, q *heaps.Queue[T], handle int64, v T, e api.Errno) {
	t.Helper()
	if got, ge := q.Get(handle); got != v || ge != e {
		t.Fatalf("Get of %d: %v, %d, want %v, %d", handle, got, ge, v, e)
	}
}

// checkRemove checks Remove of a handle.
func checkRemove[T comparable](t *testing.T, q *heaps.Queue[T], handle int64, v T, e api.Errno) {
	t.Helper()
	if got, ge := q.Remove(handle); got != v || ge != e {
		t.Fatalf("Remove of %d: %v, %d, want %v, %d", handle, got, ge, v, e)
	}
}

// checkPeek checks Peek.
func checkPeek[T comparable](t *testing.T, q *heaps.Queue[T], handle int64, v T, e api.Errno) {
	t.Helper()
	if h, got, ge := q.Peek(); h != handle || got != v || ge != e {
		t.Fatalf("Peek: %d, %v, %d, want %d, %v, %d", h, got, ge, handle, v, e)
	}
}

// checkPop checks Peek, which leaves the first value where it is, and then Pop.
func checkPop[T comparable](t *testing.T, q *heaps.Queue[T], handle int64, v T, e api.Errno) {
	t.Helper()
	many := q.Len()
	checkPeek(t, q, handle, v, e)
	if q.Len() != many {
		t.Fatalf("Len after Peek: %d, want %d", q.Len(), many)
	}
	if h, got, ge := q.Pop(); h != handle || got != v || ge != e {
		t.Fatalf("Pop: %d, %v, %d, want %d, %v, %d", h, got, ge, handle, v, e)
	}
	if e == api.OK && q.Len() != many-1 || e != api.OK && q.Len() != many {
		t.Fatalf("Len after Pop: %d, before that %d", q.Len(), many)
	}
}

// checkState checks Save, All, Len, and Get of each value.
func checkState[T comparable](t *testing.T, q *heaps.Queue[T], next int64, items ...api.HpItem[T]) {
	t.Helper()
	if s := q.Save(); s.Next != next || !slices.Equal(s.Items, items) {
		t.Fatalf("Save: %v, want %d, %v", s, next, items)
	}
	if l := looped(q); !slices.Equal(l, items) {
		t.Fatalf("All: %v, want %v", l, items)
	}
	if n := q.Len(); n != len(items) {
		t.Fatalf("Len: %d, want %d", n, len(items))
	}
	for _, i := range items {
		checkGet(t, q, i.Handle, i.Value, api.OK)
	}
}

// looped returns what All yields.
func looped[T any](q *heaps.Queue[T]) []api.HpItem[T] {
	var l []api.HpItem[T]
	for h, v := range q.All() {
		l = append(l, item(h, v))
	}
	return l
}

// popped returns what Pop returns until the queue is empty.
func popped[T any](t *testing.T, q *heaps.Queue[T]) []api.HpItem[T] {
	t.Helper()
	var l []api.HpItem[T]
	for {
		h, v, e := q.Pop()
		if e != api.OK {
			if e != api.ErrNone {
				t.Fatalf("Pop of an empty queue: %d", e)
			}
			return l
		}
		l = append(l, item(h, v))
	}
}

// The table of examples of the chapter.
func TestExamples(t *testing.T) {
	q := filled(t, below, 5, 3, 3)
	checkPeek(t, q, 2, 3, api.OK)
	checkSet(t, q, 1, 3, api.OK)
	checkState(t, q, 4, item(1, 3), item(2, 3), item(3, 3))
	checkRemove(t, q, 2, 3, api.OK)
	checkPop(t, q, 1, 3, api.OK)
	checkPop(t, q, 3, 3, api.OK)
	checkPop(t, q, 0, 0, api.ErrNone)
	checkPush(t, q, 9, 4, api.OK)
	checkGet(t, q, 1, 0, api.ErrNone)
}

// P6.2
func TestPush(t *testing.T) {
	q := heaps.New(below)
	for i, x := range []struct {
		v    int
		want []api.HpItem[int]
	}{
		{7, []api.HpItem[int]{item(1, 7)}},
		{9, []api.HpItem[int]{item(1, 7), item(2, 9)}},
		{-3, []api.HpItem[int]{item(3, -3), item(1, 7), item(2, 9)}},
		{7, []api.HpItem[int]{item(3, -3), item(1, 7), item(4, 7), item(2, 9)}},
		{math.MinInt, []api.HpItem[int]{item(5, math.MinInt), item(3, -3), item(1, 7), item(4, 7), item(2, 9)}},
		{math.MaxInt, []api.HpItem[int]{item(5, math.MinInt), item(3, -3), item(1, 7), item(4, 7), item(2, 9), item(6, math.MaxInt)}},
	} {
		checkPush(t, q, x.v, int64(i+1), api.OK)
		checkState(t, q, int64(i+2), x.want...)
	}
}

// P6.2: 5000 values are all that a queue has.
func TestPushFull(t *testing.T) {
	q := heaps.New(below)
	for i := range api.MaxHeap {
		checkPush(t, q, -i, int64(i+1), api.OK)
	}
	for range 3 {
		checkPush(t, q, -9999, 0, api.ErrFull)
		checkPeek(t, q, 5000, -4999, api.OK)
	}
	if s := q.Save(); s.Next != 5001 || len(s.Items) != 5000 {
		t.Fatalf("Save: %d, %d values", s.Next, len(s.Items))
	}
	checkPop(t, q, 5000, -4999, api.OK)
	checkPush(t, q, 7, 5001, api.OK)
	checkPush(t, q, 7, 0, api.ErrFull)
	checkRemove(t, q, 1, 0, api.OK)
	checkPush(t, q, 8, 5002, api.OK)
	checkPush(t, q, 8, 0, api.ErrFull)
	checkSet(t, q, 5002, 9, api.OK)
	if n := q.Len(); n != 5000 {
		t.Fatalf("Len: %d", n)
	}
}

// P6.2: no value gets the handle 10^15.
func TestPushHandles(t *testing.T) {
	for _, next := range []int64{1 << 31, 1 << 32, 1 << 49, api.MaxHandle - 3, api.MaxHandle - 2, api.MaxHandle - 1, api.MaxHandle} {
		q := load(t, below, state(next, item(1, 5)))
		want := []api.HpItem[int]{item(1, 5)}
		for handle := next; handle < min(next+3, api.MaxHandle); handle++ {
			checkPush(t, q, 5, handle, api.OK)
			want = append(want, item(handle, 5))
			checkState(t, q, handle+1, want...)
		}
		if end := next + int64(len(want)) - 1; end == api.MaxHandle {
			checkPush(t, q, 4, 0, api.ErrFull)
			checkState(t, q, end, want...)
			checkPop(t, q, 1, 5, api.OK)
			checkPush(t, q, 4, 0, api.ErrFull)
			checkState(t, q, end, want[1:]...)
		}
	}
	q := load(t, below, state[int](api.MaxHandle))
	checkPush(t, q, 5, 0, api.ErrFull)
	checkState(t, q, api.MaxHandle)
	checkPop(t, q, 0, 0, api.ErrNone)
}

// P6.2
func TestEmpty(t *testing.T) {
	for _, q := range []*heaps.Queue[int]{heaps.New(below), load(t, below, state[int](1)), load(t, below, api.HpState[int]{Next: 1, Items: []api.HpItem[int]{}})} {
		checkPop(t, q, 0, 0, api.ErrNone)
		checkState(t, q, 1)
		checkPush(t, q, 4, 1, api.OK)
		checkPop(t, q, 1, 4, api.OK)
		checkPop(t, q, 0, 0, api.ErrNone)
		checkState(t, q, 2)
	}
}

// P6.3: handles of which there are no values.
func TestNoHandle(t *testing.T) {
	none := []int64{0, -1, -2, -3, math.MinInt64, math.MinInt32, 4, 6, 7, 8, 1<<32 + 3, 1<<63 - 1, api.MaxHandle - 1, api.MaxHandle, api.MaxHandle + 1, -api.MaxHandle}
	q := filled(t, below, 50, 40, 30, 20, 10)
	checkRemove(t, q, 4, 20, api.OK)
	checkPush(t, q, 20, 6, api.OK)
	checkRemove(t, q, 6, 20, api.OK)
	want := []api.HpItem[int]{item(5, 10), item(3, 30), item(2, 40), item(1, 50)}
	for _, h := range none {
		checkGet(t, q, h, 0, api.ErrNone)
		checkSet(t, q, h, 7, api.ErrNone)
		checkRemove(t, q, h, 0, api.ErrNone)
		checkState(t, q, 7, want...)
	}
	q = heaps.New(below)
	for _, h := range append(none, 1, 2, 3) {
		checkGet(t, q, h, 0, api.ErrNone)
		checkSet(t, q, h, 7, api.ErrNone)
		checkRemove(t, q, h, 0, api.ErrNone)
		checkState(t, q, 1)
	}
}

// P6.3: the greatest handles there are.
func TestGreatHandles(t *testing.T) {
	q := load(t, below, state(api.MaxHandle, item(api.MaxHandle-1, 3), item(7, 4)))
	checkGet(t, q, api.MaxHandle-1, 3, api.OK)
	checkGet(t, q, api.MaxHandle, 0, api.ErrNone)
	checkGet(t, q, api.MaxHandle+1, 0, api.ErrNone)
	checkGet(t, q, api.MaxHandle-2, 0, api.ErrNone)
	checkSet(t, q, api.MaxHandle-1, 4, api.OK)
	checkState(t, q, api.MaxHandle, item(7, 4), item(api.MaxHandle-1, 4))
	checkRemove(t, q, api.MaxHandle-1, 4, api.OK)
	checkRemove(t, q, api.MaxHandle-1, 0, api.ErrNone)
	checkState(t, q, api.MaxHandle, item(7, 4))
}

// P6.3: each value of queues of up to 20 values is set to each other one, and removed.
func TestSetAndRemoveAnyPlace(t *testing.T) {
	for many := range 20 {
		for h := 1; h <= many; h++ {
			for to := -1; to <= 2*many+1; to++ {
				q, m := heaps.New(below), newModel(below)
				for i := range many {
					v := 2 * (i * 7 % many)
					checkPush(t, q, v, m.push(v), api.OK)
				}
				m.set(int64(h), to)
				checkSet(t, q, int64(h), to, api.OK)
				checkState(t, q, m.next, m.items...)
				v := m.remove(int64(h))
				checkRemove(t, q, int64(h), v, api.OK)
				checkState(t, q, m.next, m.items...)
				if got := popped(t, q); !slices.Equal(got, m.items) {
					t.Fatalf("popped of %d values without %d: %v, want %v", many, h, got, m.items)
				}
			}
		}
	}
}

// P6.2 and P6.3: of values that are alike the one with the lesser handle comes first, also if it has got there by Set.
func TestAlike(t *testing.T) {
	q := filled(t, tens, 35, 21, 39, 24, 30, 20)
	checkState(t, q, 7, item(2, 21), item(4, 24), item(6, 20), item(1, 35), item(3, 39), item(5, 30))
	checkSet(t, q, 3, 29, api.OK)
	checkState(t, q, 7, item(2, 21), item(3, 29), item(4, 24), item(6, 20), item(1, 35), item(5, 30))
	checkSet(t, q, 2, 31, api.OK)
	checkState(t, q, 7, item(3, 29), item(4, 24), item(6, 20), item(1, 35), item(2, 31), item(5, 30))
	checkSet(t, q, 3, 20, api.OK)
	checkGet(t, q, 3, 20, api.OK)
	checkPop(t, q, 3, 20, api.OK)
	checkPush(t, q, 20, 7, api.OK)
	checkPush(t, q, 19, 8, api.OK)
	for _, i := range []api.HpItem[int]{item(8, 19), item(4, 24), item(6, 20), item(7, 20), item(1, 35), item(2, 31), item(5, 30)} {
		checkPop(t, q, i.Handle, i.Value, api.OK)
	}
	checkPop(t, q, 0, 0, api.ErrNone)
}

// checkNone checks that no method finds a queue at q.
func checkNone(t *testing.T, q *heaps.Queue[int]) {
	t.Helper()
	checkPush(t, q, 5, 0, api.ErrNil)
	checkPeek(t, q, 0, 0, api.ErrNil)
	checkPop(t, q, 0, 0, api.ErrNil)
	for _, h := range []int64{-1, 0, 1, 2, api.MaxHandle} {
		checkGet(t, q, h, 0, api.ErrNil)
		checkSet(t, q, h, 5, api.ErrNil)
		checkRemove(t, q, h, 0, api.ErrNil)
	}
	if n := q.Len(); n != 0 {
		t.Errorf("Len: %d", n)
	}
	if l := looped(q); len(l) != 0 {
		t.Errorf("All: %v", l)
	}
	if s := q.Save(); s.Next != 0 || len(s.Items) != 0 {
		t.Errorf("Save: %v", s)
	}
}

// P6.1 to P6.4: a queue that is nil, that neither New nor Load returned, or that is a copy of one.
func TestNotMade(t *testing.T) {
	checkNone(t, nil)
	checkNone(t, &heaps.Queue[int]{})
	checkNone(t, new(heaps.Queue[int]))
	q := filled(t, below, 3, 2)
	other := *q
	checkNone(t, &other)
	checkState(t, q, 3, item(2, 2), item(1, 3))
	*q = heaps.Queue[int]{}
	checkNone(t, q)
	q, p := filled(t, below, 3, 2), filled(t, below, 7)
	*p = *q
	checkNone(t, p)
	checkState(t, q, 3, item(2, 2), item(1, 3))
}

// R6: what is done to a queue is of no consequence for another one.
func TestIndependent(t *testing.T) {
	a := filled(t, below, 5, 6)
	b := load(t, below, a.Save())
	c := heaps.New(below)
	checkPop(t, a, 1, 5, api.OK)
	checkPush(t, b, 4, 3, api.OK)
	checkSet(t, b, 1, 9, api.OK)
	checkPush(t, c, 1, 1, api.OK)
	checkState(t, a, 3, item(2, 6))
	checkState(t, b, 4, item(3, 4), item(2, 6), item(1, 9))
	checkState(t, c, 2, item(1, 1))
}
