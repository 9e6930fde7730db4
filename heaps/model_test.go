package heaps_test

import (
	"cmp"
	"slices"

	"groundling/api"
)

// model is a queue as the chapter defines it: a list that is put in order whenever it has changed.
type model[T comparable] struct {
	less  func(a, b T) bool
	next  int64
	items []api.HpItem[T]
}

func newModel[T comparable](less func(a, b T) bool) *model[T] {
	return &model[T]{less: less, next: 1}
}

func (m *model[T]) order() {
	slices.SortFunc(m.items, func(a, b api.HpItem[T]) int {
		switch {
		case m.less(a.Value, b.Value):
			return -1
		case m.less(b.Value, a.Value):
			return 1
		}
		return cmp.Compare(a.Handle, b.Handle)
	})
}

func (m *model[T]) push(v T) int64 {
	m.next++
	m.items = append(m.items, item(m.next-1, v))
	m.order()
	return m.next - 1
}

// place returns the place of a handle, or -1.
func (m *model[T]) place(handle int64) int {
	return slices.IndexFunc(m.items, func(i api.HpItem[T]) bool { return i.Handle == handle })
}

func (m *model[T]) set(handle int64, v T) {
	m.items[m.place(handle)].Value = v
	m.order()
}

func (m *model[T]) remove(handle int64) T {
	i := m.place(handle)
	v := m.items[i].Value
	m.items = slices.Delete(m.items, i, i+1)
	return v
}
