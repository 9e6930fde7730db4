package times_test

import (
	"math"
	"math/big"
	"testing"

	"groundling/api"
	"groundling/times"
)

// edges returns times around 0, the powers of 2, and MaxTime, ascending.
func edges() []int64 {
	l := []int64{0, 1, 2, 3, 5, 7, 10}
	for _, k := range []int{4, 8, 31, 32, 33, 61, 62} {
		for d := int64(-2); d <= 2; d++ {
			l = append(l, int64(1)<<k+d)
		}
	}
	return append(l, api.MaxTime/2+1000, api.MaxTime-2, api.MaxTime-1, api.MaxTime)
}

// noTimes are numbers below 0.
var noTimes = []int64{-1, -2, -5, -1 << 31, -1 << 32, -1 << 62, math.MinInt64 + 1, math.MinInt64}

// add returns what Add returns of two times.
func add(t *testing.T, a, b int64) int64 {
	t.Helper()
	sum, e := times.Add(a, b)
	if e != api.OK {
		t.Fatalf("Add of %d, %d: %d", a, b, e)
	}
	return sum
}

// isPassed returns what Passed returns of two times.
func isPassed(t *testing.T, deadline, now int64) bool {
	t.Helper()
	passed, e := times.Passed(deadline, now)
	if e != api.OK {
		t.Fatalf("Passed of %d at %d: %d", deadline, now, e)
	}
	return passed
}

// P5.1
func TestAdd(t *testing.T) {
	for _, x := range []struct{ t, d, want int64 }{
		{5, 7, 12},
		{0, 0, 0},
		{0, 9, 9},
		{9, 0, 9},
		{api.MaxTime, 0, api.MaxTime},
		{0, api.MaxTime, api.MaxTime},
		{api.MaxTime, 1, api.MaxTime},
		{api.MaxTime - 1, 1, api.MaxTime},
		{api.MaxTime - 1, 2, api.MaxTime},
		{api.MaxTime - 2, 1, api.MaxTime - 1},
		{api.MaxTime, api.MaxTime, api.MaxTime},
		{1 << 62, 1 << 62, api.MaxTime},
		{1 << 62, 1<<62 - 1, api.MaxTime},
		{1 << 62, 1<<62 - 2, api.MaxTime - 1},
		{api.MaxTime - api.MaxTTL, api.MaxTTL, api.MaxTime},
	} {
		if got := add(t, x.t, x.d); got != x.want {
			t.Errorf("Add of %d, %d: %d, want %d", x.t, x.d, got, x.want)
		}
		if got := add(t, x.d, x.t); got != x.want {
			t.Errorf("Add of %d, %d: %d, want %d", x.d, x.t, got, x.want)
		}
	}
}

// P5.1: the sum, or MaxTime if it is greater.
func TestAddOfAll(t *testing.T) {
	for _, a := range edges() {
		for _, b := range edges() {
			want := int64(api.MaxTime)
			if sum := new(big.Int).Add(big.NewInt(a), big.NewInt(b)); sum.IsInt64() {
				want = sum.Int64()
			}
			if got := add(t, a, b); got != want {
				t.Errorf("Add of %d, %d: %d, want %d", a, b, got, want)
			}
		}
	}
}

// P5.1
func TestPassedAndLeft(t *testing.T) {
	for _, x := range []struct {
		deadline, now int64
		passed        bool
		left          int64
	}{
		{10, 9, false, 1},
		{10, 10, true, 0},
		{10, 7, false, 3},
		{10, 11, true, 0},
		{0, 0, true, 0},
		{0, 1, true, 0},
		{1, 0, false, 1},
		{0, api.MaxTime, true, 0},
		{api.MaxTime, 0, false, api.MaxTime},
		{api.MaxTime, api.MaxTime - 1, false, 1},
		{api.MaxTime, api.MaxTime, true, 0},
		{api.MaxTime - 1, api.MaxTime, true, 0},
	} {
		if got, e := times.Passed(x.deadline, x.now); got != x.passed || e != api.OK {
			t.Errorf("Passed of %d at %d: %v, %d", x.deadline, x.now, got, e)
		}
		if got, e := times.Left(x.deadline, x.now); got != x.left || e != api.OK {
			t.Errorf("Left of %d at %d: %d, %d", x.deadline, x.now, got, e)
		}
	}
}

// P5.1
func TestAdvance(t *testing.T) {
	for _, now := range edges() {
		for _, to := range edges() {
			got, e := times.Advance(now, to)
			if to < now && (got != 0 || e != api.ErrPast) || to >= now && (got != to || e != api.OK) {
				t.Errorf("Advance from %d to %d: %d, %d", now, to, got, e)
			}
		}
	}
	if got, e := times.Advance(5, 5); got != 5 || e != api.OK {
		t.Errorf("Advance from 5 to 5: %d, %d", got, e)
	}
	if got, e := times.Advance(5, 4); got != 0 || e != api.ErrPast {
		t.Errorf("Advance from 5 to 4: %d, %d", got, e)
	}
}

// checkRange checks that no function takes a and b, one of which is no time.
func checkRange(t *testing.T, a, b int64) {
	t.Helper()
	if got, e := times.Add(a, b); got != 0 || e != api.ErrRange {
		t.Errorf("Add of %d, %d: %d, %d", a, b, got, e)
	}
	if got, e := times.Passed(a, b); got || e != api.ErrRange {
		t.Errorf("Passed of %d at %d: %v, %d", a, b, got, e)
	}
	if got, e := times.Left(a, b); got != 0 || e != api.ErrRange {
		t.Errorf("Left of %d at %d: %d, %d", a, b, got, e)
	}
	if got, e := times.Advance(a, b); got != 0 || e != api.ErrRange {
		t.Errorf("Advance from %d to %d: %d, %d", a, b, got, e)
	}
}

// P5.1: ErrRange comes before ErrPast.
func TestNoTimes(t *testing.T) {
	for _, a := range noTimes {
		for _, b := range edges() {
			checkRange(t, a, b)
			checkRange(t, b, a)
		}
		for _, b := range noTimes {
			checkRange(t, a, b)
		}
	}
}

// P5.5: the deadline is at least t and d, grows with both, and it does not matter whether two are added at once.
func TestDeadlines(t *testing.T) {
	all := edges()
	for i, a := range all {
		for j, b := range all {
			sum := add(t, a, b)
			if sum < a || sum < b {
				t.Errorf("Add of %d, %d: %d", a, b, sum)
			}
			if i > 0 && add(t, all[i-1], b) > sum || j > 0 && add(t, a, all[j-1]) > sum {
				t.Errorf("Add of %d, %d is less than that of a lesser time", a, b)
			}
			for _, c := range all {
				if one, other := add(t, sum, c), add(t, a, add(t, b, c)); one != other {
					t.Errorf("%d and %d, and %d: %d, but %d and %d, and %d: %d", a, b, c, one, b, c, a, other)
				}
			}
		}
	}
}

// P5.5: what begins to last is not over, unless time is.
func TestDeadlineFromNow(t *testing.T) {
	for _, now := range edges() {
		for _, d := range edges() {
			want := d == 0 || now == api.MaxTime
			if got := isPassed(t, add(t, now, d), now); got != want {
				t.Errorf("Passed, at %d, of the deadline from then on in %d: %v", now, d, got)
			}
		}
	}
}

// P5.6
func TestTicks(t *testing.T) {
	steps := edges()
	for _, deadline := range edges() {
		now := int64(0)
		was := false
		for _, to := range steps {
			next, e := times.Advance(now, to)
			if e != api.OK {
				t.Fatalf("Advance from %d to %d: %d", now, to, e)
			}
			now = next
			passed := isPassed(t, deadline, now)
			if passed != (now >= deadline) || was && !passed {
				t.Errorf("Passed of %d at %d: %v, and before that %v", deadline, now, passed, was)
			}
			if left, e := times.Left(deadline, now); (left == 0) != passed || left < 0 || !passed && now+left != deadline || e != api.OK {
				t.Errorf("Left of %d at %d: %d, %d, and Passed is %v", deadline, now, left, e, passed)
			}
			was = passed
		}
	}
}
