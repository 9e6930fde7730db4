package heaps_test

import (
	"errors"
	"fmt"
	"math"
	"math/rand"
	"slices"
	"testing"

	"groundling/api"
	"groundling/heaps"
)

// lessAny is the order of values of any type by what they look like.
func lessAny(a, b any) bool { return fmt.Sprint(a) < fmt.Sprint(b) }

// P6.8: values that are nil, of types that are interfaces, pointers, slices, maps, functions and channels.
func TestNilValues(t *testing.T) {
	checkNilValues(t, func(a, b any) bool { return a != nil && b == nil }, any(7))
	checkNilValues(t, func(a, b error) bool { return a != nil && b == nil }, errors.New("x"))
	checkNilValues(t, func(a, b *int) bool { return a != nil && b == nil }, new(int))
	checkNilValues(t, func(a, b []int) bool { return a != nil && b == nil }, []int{})
	checkNilValues(t, func(a, b map[int]int) bool { return a != nil && b == nil }, map[int]int{})
	checkNilValues(t, func(a, b func()) bool { return a != nil && b == nil }, func() {})
	checkNilValues(t, func(a, b chan int) bool { return a != nil && b == nil }, make(chan int))
}

// checkNilValues checks queues of two values that are nil, and of a value that comes before these.
func checkNilValues[T any](t *testing.T, less func(a, b T) bool, v T) {
	t.Helper()
	var none T
	q := filled(t, less, none, v, none)
	checkSet(t, q, 1, none, api.OK)
	q = load(t, less, q.Save())
	var order []int64
	for h, got := range q.All() {
		order = append(order, h)
		if less(got, none) != (h == 2) {
			t.Errorf("All yields another value of the type %T with %d", v, h)
		}
	}
	if !slices.Equal(order, []int64{2, 1, 3}) {
		t.Errorf("All of the type %T yields %v", v, order)
	}
	if got, e := q.Get(3); less(got, none) || e != api.OK {
		t.Errorf("Get of nil of the type %T: %d", v, e)
	}
	if got, e := q.Remove(1); less(got, none) || e != api.OK {
		t.Errorf("Remove of nil of the type %T: %d", v, e)
	}
	for _, want := range []int64{2, 3} {
		if h, got, e := q.Pop(); h != want || less(got, none) != (h == 2) || e != api.OK {
			t.Errorf("Pop of the type %T: %d, %d", v, h, e)
		}
	}
	if _, got, e := q.Pop(); less(got, none) || e != api.ErrNone {
		t.Errorf("Pop of an empty queue of the type %T: %d", v, e)
	}
}

// P6.8: a value is kept as it is, and not what it leads to.
func TestValuesAreKept(t *testing.T) {
	a, b := []int{2, 7}, []int{1, 8}
	q := filled(t, func(a, b []int) bool { return a[0] < b[0] }, a, b)
	if _, v, _ := q.Peek(); &v[0] != &b[0] || len(v) != 2 {
		t.Errorf("Peek: %v", v)
	}
	if v, _ := q.Get(1); &v[0] != &a[0] || len(v) != 2 {
		t.Errorf("Get: %v", v)
	}
	if !slices.Equal(a, []int{2, 7}) || !slices.Equal(b, []int{1, 8}) {
		t.Errorf("the values have become %v and %v", a, b)
	}
}

// drained checks, whatever the order is, that a queue has all values of the handles in its state, and pops each once.
func drained[T any](t *testing.T, q *heaps.Queue[T], many int) {
	t.Helper()
	s := q.Save()
	if q.Len() != many || len(s.Items) != many || len(looped(q)) != many {
		t.Fatalf("Len: %d, Save: %d values, want %d", q.Len(), len(s.Items), many)
	}
	left := map[int64]bool{}
	for _, i := range s.Items {
		left[i.Handle] = true
	}
	for _, i := range popped(t, q) {
		if !left[i.Handle] {
			t.Fatalf("popped %d, which was not there", i.Handle)
		}
		delete(left, i.Handle)
	}
	if len(left) > 0 || q.Len() != 0 {
		t.Fatalf("%v were not popped", left)
	}
}

// R1 and P6.8: what is no order leads to no panic, and loses no value.
func TestNoOrders(t *testing.T) {
	r := rand.New(rand.NewSource(16))
	for name, less := range map[string]func(a, b float64) bool{
		"always":    func(a, b float64) bool { return true },
		"unequal":   func(a, b float64) bool { return a != b },
		"round":     func(a, b float64) bool { return math.Mod(b-a+3, 3) == 1 },
		"random":    func(a, b float64) bool { return r.Intn(2) == 0 },
		"NaN":       func(a, b float64) bool { return a < b },
		"panic":     func(a, b float64) bool { panic("no order") },
		"panic nil": func(a, b float64) bool { panic(nil) },
		"index":     func(a, b float64) bool { return []float64{3, 1, 2}[int(a)] < []float64{3, 1, 2}[int(b)] },
	} {
		q := heaps.New(less)
		many := 0
		for range 2000 {
			switch h := r.Int63n(300) - 5; r.Intn(8) {
			case 0:
				if _, _, e := q.Pop(); e == api.OK {
					many--
				}
			case 1:
				if _, e := q.Remove(h); e == api.OK {
					many--
				}
			case 2:
				q.Set(h, float64(r.Intn(5)))
			default:
				if _, e := q.Push([]float64{0, 1, 2, 3, math.NaN()}[r.Intn(5)]); e != api.OK {
					t.Fatalf("Push in the order %s: %d", name, e)
				}
				many++
			}
		}
		heaps.Load(less, q.Save())
		drained(t, q, many)
	}
}

// R1: an order that says of alike values that each is before the other one leaves them in the order of their handles.
func TestNotAbove(t *testing.T) {
	q := filled(t, func(a, b int) bool { return a <= b }, 5, 3, 3, 5, 3)
	checkState(t, q, 6, item(2, 3), item(3, 3), item(5, 3), item(1, 5), item(4, 5))
	q = load(t, func(a, b int) bool { return a <= b }, q.Save())
	for _, i := range []api.HpItem[int]{item(2, 3), item(3, 3), item(5, 3), item(1, 5), item(4, 5)} {
		checkPop(t, q, i.Handle, i.Value, api.OK)
	}
}

// R1: an order that panics because of one value only says nothing about this one.
func TestPointers(t *testing.T) {
	less := func(a, b *int) bool { return *a < *b }
	one, two := 1, 2
	q := filled(t, less, &two, &one)
	checkPush(t, q, nil, 3, api.OK)
	checkGet(t, q, 3, nil, api.OK)
	checkRemove(t, q, 3, nil, api.OK)
	checkState(t, q, 4, item(2, &one), item(1, &two))
	checkLoad(t, less, state[*int](3, item[*int](1, nil), item[*int](2, nil)), api.OK)
	checkLoad(t, less, state[*int](3, item[*int](2, nil), item[*int](1, nil)), api.ErrForm)
}

// R1: an order that uses its own queue finds none, while it is asked.
func TestOrderWithItsQueue(t *testing.T) {
	var q *heaps.Queue[int]
	asked := 0
	q = heaps.New(func(a, b int) bool {
		asked++
		checkNone(t, q)
		return a < b
	})
	for i, v := range []int{5, 3, 4} {
		checkPush(t, q, v, int64(i+1), api.OK)
	}
	checkState(t, q, 4, item(2, 3), item(3, 4), item(1, 5))
	checkSet(t, q, 2, 6, api.OK)
	checkRemove(t, q, 1, 5, api.OK)
	checkPop(t, q, 3, 4, api.OK)
	checkState(t, q, 4, item(2, 6))
	if asked == 0 {
		t.Error("the order was not asked")
	}
}
