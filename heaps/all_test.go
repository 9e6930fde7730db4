package heaps_test

import (
	"slices"
	"testing"

	"groundling/api"
	"groundling/heaps"
)

// P6.4
func TestAll(t *testing.T) {
	q := filled(t, tens, 31, 12, 35, 18, 4)
	want := []api.HpItem[int]{item(5, 4), item(2, 12), item(4, 18), item(1, 31), item(3, 35)}
	for range 3 {
		if l := looped(q); !slices.Equal(l, want) {
			t.Errorf("All: %v", l)
		}
		checkState(t, q, 6, want...)
	}
	for range heaps.New(below).All() {
		t.Error("an empty queue yields something")
	}
}

// P6.4: a loop that ends early is not gone on with, and leaves the queue as it was.
func TestAllEndsEarly(t *testing.T) {
	q := filled(t, below, 5, 3, 4)
	want := []api.HpItem[int]{item(2, 3), item(3, 4), item(1, 5)}
	for many := range 4 {
		var l []api.HpItem[int]
		q.All()(func(h int64, v int) bool {
			l = append(l, item(h, v))
			return len(l) < many
		})
		if !slices.Equal(l, want[:max(many, 1)]) {
			t.Errorf("a loop that ends after %d: %v", many, l)
		}
		checkState(t, q, 4, want...)
	}
	for h, v := range q.All() {
		if h != 2 || v != 3 {
			t.Errorf("All yields %d, %d first", h, v)
		}
		break
	}
	first := func() int64 {
		for h := range q.All() {
			return h
		}
		return 0
	}
	if h := first(); h != 2 {
		t.Errorf("All yields %d first", h)
	}
}

// P6.4: what a loop does to the queue is of no consequence for what it is yielded.
func TestAllWithChanges(t *testing.T) {
	q := filled(t, below, 5, 3, 4)
	want := []api.HpItem[int]{item(2, 3), item(3, 4), item(1, 5)}
	var l []api.HpItem[int]
	for h, v := range q.All() {
		l = append(l, item(h, v))
		if h == 2 {
			checkSet(t, q, 1, 0, api.OK)
			checkSet(t, q, 3, 9, api.OK)
			checkRemove(t, q, 2, 3, api.OK)
			checkPush(t, q, 4, 4, api.OK)
			checkPush(t, q, 1, 5, api.OK)
		}
	}
	if !slices.Equal(l, want) {
		t.Errorf("All: %v, want %v", l, want)
	}
	checkState(t, q, 6, item(1, 0), item(5, 1), item(4, 4), item(3, 9))
}

// P6.4: a loop that pops all, and one that pushes each value again.
func TestAllThatPopsAndPushes(t *testing.T) {
	q := filled(t, below, 5, 3, 4)
	for h, v := range q.All() {
		checkPop(t, q, h, v, api.OK)
	}
	checkState(t, q, 4)
	q = filled(t, below, 5, 3, 4)
	var l []int
	for _, v := range q.All() {
		l = append(l, v)
		checkPush(t, q, v, int64(len(l)+3), api.OK)
	}
	if !slices.Equal(l, []int{3, 4, 5}) {
		t.Errorf("All: %v", l)
	}
	checkState(t, q, 7, item(2, 3), item(4, 3), item(3, 4), item(5, 4), item(1, 5), item(6, 5))
}

// P6.4: the values are those that there are when the loop begins, not when All is called, nor when an earlier loop began.
func TestAllBeginsWithTheLoop(t *testing.T) {
	q := filled(t, below, 5)
	all := q.All()
	checkPush(t, q, 3, 2, api.OK)
	for i, want := range [][]int{{3, 5}, {4, 5}, {5}} {
		var l []int
		for _, v := range all {
			l = append(l, v)
		}
		if !slices.Equal(l, want) {
			t.Errorf("loop %d: %v, want %v", i, l, want)
		}
		if i == 0 {
			checkSet(t, q, 2, 4, api.OK)
		} else if i == 1 {
			checkPop(t, q, 2, 4, api.OK)
		}
	}
}

// P6.4: loops in each other.
func TestAllNested(t *testing.T) {
	q := filled(t, below, 2, 1)
	all := q.All()
	var l []int
	for _, a := range all {
		for _, b := range all {
			l = append(l, 10*a+b)
		}
		q.Pop()
	}
	if !slices.Equal(l, []int{11, 12, 22}) {
		t.Errorf("loops: %v", l)
	}
}

// P6.4: a panic of the loop is the caller's.
func TestAllWithPanic(t *testing.T) {
	q := filled(t, below, 2, 1)
	defer func() {
		if r := recover(); r != "enough" {
			t.Errorf("recovered %v", r)
		}
		checkState(t, q, 3, item(2, 1), item(1, 2))
	}()
	for range q.All() {
		panic("enough")
	}
}
