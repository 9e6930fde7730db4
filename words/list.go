package words

import (
	"cmp"
	"strings"

	"groundling/api"
)

// run is a run of consecutive integers of a list expression: its first and its last one, in decimal form, because they may be of any size.
type run struct{ first, last string }

// List returns the list expression of l.
func List(l []int) (string, api.Errno) {
	if len(l) > api.MaxListed {
		return "", api.ErrLong
	}
	for _, n := range l {
		if n < 0 || n > api.MaxNumber {
			return "", api.ErrRange
		}
	}
	for i := 1; i < len(l); i++ {
		if l[i-1] >= l[i] {
			return "", api.ErrForm
		}
	}
	if len(l) == 0 {
		return "-", api.OK
	}
	return printRuns(l), api.OK
}

// ParseList returns the list whose list expression s is.
func ParseList(s string) ([]int, api.Errno) {
	if s == "-" {
		return nil, api.OK
	}
	var runs []run
	for part := range strings.SplitSeq(s, ",") {
		r, ok := parseRun(part)
		if !ok || len(runs) > 0 && !isApart(runs[len(runs)-1], r) {
			return nil, api.ErrForm
		}
		runs = append(runs, r)
	}
	return expand(runs)
}

// printRuns returns the runs of a strictly ascending list, separated by commas.
func printRuns(l []int) string {
	var parts []string
	for i := 0; i < len(l); {
		k := i
		for k+1 < len(l) && l[k+1] == l[k]+1 {
			k++
		}
		part := Digits(int64(l[i]))
		if k > i {
			part += "-" + Digits(int64(l[k]))
		}
		parts = append(parts, part)
		i = k + 1
	}
	return strings.Join(parts, ",")
}

// parseRun returns the run that s is the written form of, if it is one.
func parseRun(s string) (run, bool) {
	first, last, long := strings.Cut(s, "-")
	if !long {
		return run{s, s}, isNatural(s)
	}
	if !isNatural(first) || !isNatural(last) || compare(first, last) >= 0 {
		return run{}, false
	}
	return run{first, last}, true
}

// isApart reports whether an integer is between the runs a and b, so that together they are no longer run.
func isApart(a, b run) bool {
	return compare(successor(a.last), b.first) < 0
}

// expand returns the integers of runs that ascend.
func expand(runs []run) ([]int, api.Errno) {
	// The last integer is the greatest one: if it is small enough, all are.
	if _, e := Int(runs[len(runs)-1].last, 0, api.MaxNumber); e != api.OK {
		return nil, api.ErrRange
	}
	var l []int
	for _, r := range runs {
		first, _ := Int(r.first, 0, api.MaxNumber)
		last, _ := Int(r.last, 0, api.MaxNumber)
		// Looked at before the run is written out, which may be of 10^9 integers.
		if last-first >= int64(api.MaxListed-len(l)) {
			return nil, api.ErrLong
		}
		for n := first; n <= last; n++ {
			l = append(l, int(n))
		}
	}
	return l, api.OK
}

// compare compares two integers in decimal form, neither of them negative.
func compare(a, b string) int {
	return cmp.Or(cmp.Compare(len(a), len(b)), strings.Compare(a, b))
}

// successor returns the decimal form of the integer after s, which is not negative.
func successor(s string) string {
	b := []byte(s)
	for i := len(b) - 1; i >= 0; i-- {
		if b[i] < '9' {
			b[i]++
			return string(b)
		}
		b[i] = '0'
	}
	return "1" + string(b)
}
