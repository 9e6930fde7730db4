package times

import (
	"cmp"
	"slices"

	"groundling/api"
)

// Check returns whether s is a span.
func Check(s api.TmSpan) api.Errno {
	switch {
	case !areTimes(s.From, s.To):
		return api.ErrRange
	case s.From >= s.To:
		return api.ErrForm
	}
	return api.OK
}

// Meet returns the span of the times that both have.
func Meet(a, b api.TmSpan) (s api.TmSpan, some bool, e api.Errno) {
	if e := checkAll([]api.TmSpan{a, b}); e != api.OK {
		return api.TmSpan{}, false, e
	}
	s = api.TmSpan{From: max(a.From, b.From), To: min(a.To, b.To)}
	if s.From >= s.To {
		return api.TmSpan{}, false, api.OK
	}
	return s, true, api.OK
}

// Union returns the spans of the times that a span of the list has.
func Union(l []api.TmSpan) ([]api.TmSpan, api.Errno) {
	if e := checkLists(l); e != api.OK {
		return nil, e
	}
	return joined(l), api.OK
}

// Minus returns the spans of the times that a span of a has, and none of b.
func Minus(a, b []api.TmSpan) ([]api.TmSpan, api.Errno) {
	if e := checkLists(a, b); e != api.OK {
		return nil, e
	}
	cuts := joined(b)
	var spans []api.TmSpan
	for _, s := range joined(a) {
		spans = append(spans, without(s, cuts)...)
	}
	return spans, api.OK
}

// Total returns how many times the spans of the list have together.
func Total(l []api.TmSpan) (int64, api.Errno) {
	if e := checkLists(l); e != api.OK {
		return 0, e
	}
	var total int64
	for _, s := range joined(l) {
		total += s.To - s.From
	}
	return total, api.OK
}

// checkLists returns ErrLong if one of the lists is too long, or else the error of the first span of all of them that is none.
func checkLists(lists ...[]api.TmSpan) api.Errno {
	for _, l := range lists {
		if len(l) > api.MaxSpans {
			return api.ErrLong
		}
	}
	return checkAll(slices.Concat(lists...))
}

// checkAll returns the error of the first span of the list that is none.
func checkAll(l []api.TmSpan) api.Errno {
	for _, s := range l {
		if e := Check(s); e != api.OK {
			return e
		}
	}
	return api.OK
}

// joined returns the spans of the set of all times that a span of the list has.
func joined(l []api.TmSpan) []api.TmSpan {
	sorted := slices.SortedFunc(slices.Values(l), func(a, b api.TmSpan) int {
		return cmp.Compare(a.From, b.From)
	})
	var spans []api.TmSpan
	for _, s := range sorted {
		last := len(spans) - 1
		// A span that only touches the last one is a part of it too: there are to be as few as possible.
		if last >= 0 && s.From <= spans[last].To {
			spans[last].To = max(spans[last].To, s.To)
		} else {
			spans = append(spans, s)
		}
	}
	return spans
}

// without returns the spans of the times of s that none of the cuts has; these ascend, and none touches the next one.
func without(s api.TmSpan, cuts []api.TmSpan) []api.TmSpan {
	var spans []api.TmSpan
	rest := s
	for _, c := range cuts {
		switch {
		case c.To <= rest.From || c.From >= rest.To:
			// They have no time in common.
		case c.From > rest.From:
			spans = append(spans, api.TmSpan{From: rest.From, To: c.From})
			fallthrough
		default:
			rest.From = c.To
		}
	}
	if rest.From < rest.To {
		spans = append(spans, rest)
	}
	return spans
}
