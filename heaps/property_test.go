package heaps_test

import (
	"fmt"
	"math/rand"
	"slices"
	"testing"

	"groundling/api"
	"groundling/heaps"
)

// change does something to a queue of numbers, and returns what it was, and its results.
func change(r *rand.Rand, q *heaps.Queue[int]) string {
	v, h := r.Intn(60), int64(r.Intn(40))
	switch r.Intn(8) {
	case 0, 1, 2:
		h, e := q.Push(v)
		return fmt.Sprint("Push of ", v, ": ", h, e)
	case 3:
		h, v, e := q.Pop()
		return fmt.Sprint("Pop: ", h, v, e)
	case 4, 5:
		return fmt.Sprint("Set of ", h, " to ", v, ": ", q.Set(h, v))
	case 6:
		v, e := q.Remove(h)
		return fmt.Sprint("Remove of ", h, ": ", v, e)
	}
	v, e := q.Get(h)
	return fmt.Sprint("Get of ", h, ": ", v, e)
}

// step does the same to a queue and to a model of it: a call that n says, with v and h as far as it needs them. It checks the results.
func step[T comparable](t *testing.T, q *heaps.Queue[T], m *model[T], n int, v T, h int64) {
	t.Helper()
	var zero T
	e := api.OK
	if m.place(h) < 0 {
		e = api.ErrNone
	}
	switch n {
	case 0:
		checkPush(t, q, v, m.push(v), api.OK)
	case 1:
		if len(m.items) == 0 {
			checkPop(t, q, 0, zero, api.ErrNone)
			break
		}
		first := m.items[0]
		m.remove(first.Handle)
		checkPop(t, q, first.Handle, first.Value, api.OK)
	case 2:
		if e == api.OK {
			m.set(h, v)
		}
		checkSet(t, q, h, v, e)
	case 3:
		want := zero
		if e == api.OK {
			want = m.remove(h)
		}
		checkRemove(t, q, h, want, e)
	}
}

// P6.2 to P6.4: all short lists of calls.
func TestAllCalls(t *testing.T) {
	type call struct{ n, v, h int }
	var calls []call
	for v := range 3 {
		calls = append(calls, call{0, v, 0}, call{2, v, 1}, call{2, v, 2})
	}
	calls = append(calls, call{n: 1}, call{3, 0, 1}, call{3, 0, 2})
	for n := range len(calls) * len(calls) * len(calls) * len(calls) * len(calls) {
		q, m := heaps.New(below), newModel(below)
		for ; n > 0; n /= len(calls) {
			c := calls[n%len(calls)]
			step(t, q, m, c.n, c.v, int64(c.h))
		}
		checkState(t, q, m.next, m.items...)
	}
}

// checkRandom checks many calls with random values of a type against a model.
func checkRandom[T comparable](t *testing.T, seed int64, less func(a, b T) bool, value func(r *rand.Rand) T) {
	t.Helper()
	r := rand.New(rand.NewSource(seed))
	for range 60 {
		q, m := heaps.New(less), newModel(less)
		// With many pushes the queue grows, with few it stays small.
		kinds := [][]int{{0, 0, 0, 1, 2, 3}, {0, 1, 2, 3}, {0, 0, 2, 2, 2, 3}}[r.Intn(3)]
		for range 150 {
			step(t, q, m, kinds[r.Intn(len(kinds))], value(r), r.Int63n(m.next+2))
			checkState(t, q, m.next, m.items...)
		}
		if r.Intn(2) == 0 {
			q = load(t, less, q.Save())
		}
		if l := popped(t, q); !slices.Equal(l, m.items) {
			t.Fatalf("popped: %v, want %v", l, m.items)
		}
	}
}

// P6.1 to P6.5: values of several types, in several orders.
func TestRandomCalls(t *testing.T) {
	checkRandom(t, 2, below, func(r *rand.Rand) int { return r.Intn(8) })
	checkRandom(t, 3, below, func(r *rand.Rand) int { return r.Int() - r.Int() })
	checkRandom(t, 4, tens, func(r *rand.Rand) int { return r.Intn(40) })
	checkRandom(t, 5, func(a, b int) bool { return a > b }, func(r *rand.Rand) int { return r.Intn(30) })
	checkRandom(t, 6, func(a, b int) bool { return false }, func(r *rand.Rand) int { return r.Intn(9) })
	checkRandom(t, 7, func(a, b string) bool { return len(a) < len(b) }, func(r *rand.Rand) string { return fmt.Sprint(r.Intn(2000)) })
	checkRandom(t, 8, func(a, b uint8) bool { return a < b }, func(r *rand.Rand) uint8 { return uint8(r.Intn(256)) })
	checkRandom(t, 9, func(a, b api.HoEntry) bool { return a.Deadline < b.Deadline }, func(r *rand.Rand) api.HoEntry {
		return api.HoEntry{Seat: r.Intn(50), Deadline: r.Int63n(9)}
	})
	checkRandom(t, 10, func(a, b [2]float64) bool { return a[1] < b[1] }, func(r *rand.Rand) [2]float64 {
		return [2]float64{r.Float64(), float64(r.Intn(5))}
	})
	checkRandom(t, 11, func(a, b struct{}) bool { return false }, func(r *rand.Rand) struct{} { return struct{}{} })
	checkRandom(t, 12, lessAny, func(r *rand.Rand) any { return []any{nil, 1, 2, "a", "b", 2.5}[r.Intn(6)] })
}

// P6.5: what is popped are all values, none less than one before it.
func TestPopped(t *testing.T) {
	r := rand.New(rand.NewSource(13))
	for _, many := range []int{0, 1, 2, 3, 7, 8, 9, 100, 1000, 4999, 5000} {
		q := heaps.New(tens)
		given := map[int64]int{}
		for range many {
			v := r.Intn(max(10*many, 1))
			h, e := q.Push(v)
			if e != api.OK {
				t.Fatalf("Push: %d", e)
			}
			given[h] = v
		}
		l := popped(t, q)
		if len(l) != many || len(given) != many {
			t.Fatalf("%d values were pushed, %d popped", many, len(l))
		}
		for i, x := range l {
			if v, ok := given[x.Handle]; !ok || v != x.Value {
				t.Fatalf("popped %v, which was pushed as %d, %v", x, v, ok)
			}
			delete(given, x.Handle)
			if i > 0 && (tens(x.Value, l[i-1].Value) || !tens(l[i-1].Value, x.Value) && x.Handle < l[i-1].Handle) {
				t.Fatalf("popped %v after %v", x, l[i-1])
			}
		}
	}
}

// P6.6: no handle is given twice, whatever becomes of the values.
func TestHandles(t *testing.T) {
	r := rand.New(rand.NewSource(14))
	q := heaps.New(below)
	for last := int64(0); last < 3000; {
		if r.Intn(3) > 0 {
			last++
			checkPush(t, q, r.Intn(100), last, api.OK)
			continue
		}
		q.Pop()
		q.Remove(1 + r.Int63n(last+1))
		if r.Intn(50) == 0 {
			popped(t, q)
			checkState(t, q, last+1)
		}
		if r.Intn(50) == 0 {
			q = load(t, below, q.Save())
		}
	}
}

// P6.6: Remove of what was just pushed, and Set to what was there, leave the values as they were.
func TestThereAndBack(t *testing.T) {
	r := rand.New(rand.NewSource(15))
	for range 300 {
		q := heaps.New(tens)
		for range r.Intn(40) {
			change(r, q)
		}
		before := q.Save()
		v := r.Intn(60)
		h, _ := q.Push(v)
		checkRemove(t, q, h, v, api.OK)
		checkState(t, q, before.Next+1, before.Items...)
		for _, i := range before.Items {
			checkSet(t, q, i.Handle, i.Value, api.OK)
			checkState(t, q, before.Next+1, before.Items...)
			checkSet(t, q, i.Handle, r.Intn(60), api.OK)
			checkSet(t, q, i.Handle, i.Value, api.OK)
			checkState(t, q, before.Next+1, before.Items...)
		}
		if l := popped(t, q); !slices.Equal(l, before.Items) {
			t.Fatalf("popped: %v, want %v", l, before.Items)
		}
	}
}

// P6.7: different values are popped in the same order, in whichever one they were pushed.
func TestOrderOfPushes(t *testing.T) {
	var try func(l []int, done int)
	try = func(l []int, done int) {
		if done == len(l) {
			var got []int
			for _, i := range popped(t, filled(t, below, l...)) {
				got = append(got, i.Value)
			}
			if !slices.IsSorted(got) || len(got) != len(l) {
				t.Fatalf("pushed %v, popped %v", l, got)
			}
			return
		}
		for i := done; i < len(l); i++ {
			l[done], l[i] = l[i], l[done]
			try(l, done+1)
			l[done], l[i] = l[i], l[done]
		}
	}
	for many := range 8 {
		l := make([]int, many)
		for i := range l {
			l[i] = i * i
		}
		try(l, 0)
	}
}
