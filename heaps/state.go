package heaps

import (
	"slices"

	"groundling/api"
)

// Load returns the queue with this state.
func Load[T any](less func(a, b T) bool, s api.HpState[T]) (*Queue[T], api.Errno) {
	q := New(less)
	if q == nil {
		return nil, api.ErrNil
	}
	if e := checkHandles(s); e != api.OK {
		return nil, e
	}
	if !slices.IsSortedFunc(s.Items, q.values.compare) {
		return nil, api.ErrForm
	}
	q.next = s.Next
	// Values that are in their order are a heap as they are.
	for _, item := range s.Items {
		q.values.Push(item)
	}
	return q, api.OK
}

// Save returns the state.
func (q *Queue[T]) Save() api.HpState[T] {
	if !q.isMade() {
		return api.HpState[T]{}
	}
	return api.HpState[T]{Next: q.next, Items: q.values.sorted()}
}

// checkHandles returns the error of a state, whatever the order of its values is.
func checkHandles[T any](s api.HpState[T]) api.Errno {
	if len(s.Items) > api.MaxHeap {
		return api.ErrLong
	}
	if s.Next < 1 || s.Next > api.MaxHandle {
		return api.ErrRange
	}
	seen := map[int64]bool{}
	for _, item := range s.Items {
		if item.Handle < 1 || item.Handle >= s.Next {
			return api.ErrRange
		}
		seen[item.Handle] = true
	}
	if len(seen) < len(s.Items) {
		return api.ErrTwice
	}
	return api.OK
}
