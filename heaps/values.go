package heaps

import (
	"cmp"
	"slices"

	"groundling/api"
)

// values are those of a queue, with their handles, as container/heap sees and changes them. They are handed on with their handles, because an assertion would not get back a value that is nil itself.
type values[T any] struct {
	less   func(a, b T) bool
	asked  bool // less is running
	list   []api.HpItem[T]
	places map[int64]int // of the values in list, by their handles
}

// Len returns how many values there are.
func (l *values[T]) Len() int { return len(l.list) }

// Less reports whether the value at i comes before that at j.
func (l *values[T]) Less(i, j int) bool { return l.compare(l.list[i], l.list[j]) < 0 }

// Swap exchanges the values at i and j.
func (l *values[T]) Swap(i, j int) {
	l.list[i], l.list[j] = l.list[j], l.list[i]
	l.places[l.list[i].Handle] = i
	l.places[l.list[j].Handle] = j
}

// Push puts a value at the end.
func (l *values[T]) Push(x any) {
	item := x.(api.HpItem[T])
	l.places[item.Handle] = len(l.list)
	l.list = append(l.list, item)
}

// Pop takes the value at the end away.
func (l *values[T]) Pop() any {
	end := len(l.list) - 1
	item := l.list[end]
	// The memory behind the end would keep what the value leads to.
	l.list[end] = api.HpItem[T]{}
	l.list = l.list[:end]
	delete(l.places, item.Handle)
	return item
}

// sorted returns the values in their order.
func (l *values[T]) sorted() []api.HpItem[T] {
	return slices.SortedFunc(slices.Values(l.list), l.compare)
}

// compare returns which of two values comes first. It asks less both ways, so that even a less that is no order tells two values apart in only one way.
func (l *values[T]) compare(a, b api.HpItem[T]) int {
	switch before, after := l.says(a.Value, b.Value), l.says(b.Value, a.Value); {
	case before == after:
		return cmp.Compare(a.Handle, b.Handle)
	case before:
		return -1
	}
	return 1
}

// says returns what less says of two values. If less panics (because of a nil pointer, say), it does not say that a comes before b.
func (l *values[T]) says(a, b T) (before bool) {
	l.asked = true
	defer func() {
		l.asked = false
		recover()
	}()
	return l.less(a, b)
}
