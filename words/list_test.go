package words_test

import (
	"math"
	"slices"
	"strings"
	"testing"

	"groundling/api"
	"groundling/words"
)

// numbers returns the integers from first to last.
func numbers(first, last int) []int {
	var l []int
	for n := first; n <= last; n++ {
		l = append(l, n)
	}
	return l
}

// P1.6
func TestListAndParseList(t *testing.T) {
	for s, want := range map[string][]int{
		"-":                    nil,
		"0":                    {0},
		"0-1":                  {0, 1},
		"1-2":                  {1, 2},
		"0,2":                  {0, 2},
		"1-3,5,8-9":            {1, 2, 3, 5, 8, 9},
		"9-11,99,101":          {9, 10, 11, 99, 101},
		"8,10":                 {8, 10},
		"999999999-1000000000": {999999999, 1000000000},
		"0,2,1000000000":       {0, 2, 1000000000},
		"0-499":                numbers(0, 499),
		"0-249,251-500":        slices.Concat(numbers(0, 249), numbers(251, 500)),
		"999999501-1000000000": numbers(999999501, 1000000000),
	} {
		if got, e := words.List(want); got != s || e != api.OK {
			t.Errorf("List of %s: %s, %d", s, got, e)
		}
		if l, e := words.ParseList(s); !slices.Equal(l, want) || e != api.OK {
			t.Errorf("ParseList(%s): %v, %d", s, l, e)
		}
	}
	if s, e := words.List([]int{}); s != "-" || e != api.OK {
		t.Errorf("List of an empty list: %s, %d", s, e)
	}
}

// P1.6
func TestListErrors(t *testing.T) {
	for i, x := range []struct {
		l []int
		e api.Errno
	}{
		{[]int{2, 1}, api.ErrForm},
		{[]int{1, 1}, api.ErrForm},
		{[]int{1, 2, 3, 3}, api.ErrForm},
		{[]int{0, 5, 1}, api.ErrForm},
		{[]int{-1}, api.ErrRange},
		{[]int{math.MinInt}, api.ErrRange},
		{[]int{1000000001}, api.ErrRange},
		{[]int{math.MaxInt}, api.ErrRange},
		{[]int{2, 1, -1}, api.ErrRange},
		{[]int{1, 1, 1000000001}, api.ErrRange},
		{make([]int, 500), api.ErrForm},
		{make([]int, 501), api.ErrLong},
		{numbers(0, 500), api.ErrLong},
		{numbers(-1, 499), api.ErrLong},
	} {
		if s, e := words.List(x.l); s != "" || e != x.e {
			t.Errorf("%d: List: %s, %d, want %d", i, s, e, x.e)
		}
	}
}

// P1.6: ErrForm comes before ErrRange, and this before ErrLong.
func TestParseListErrors(t *testing.T) {
	nines := strings.Repeat("9", 300)
	after := "1" + strings.Repeat("0", 300)
	for s, want := range map[string]api.Errno{
		"":                                  api.ErrForm,
		",":                                 api.ErrForm,
		"--":                                api.ErrForm,
		"-,1":                               api.ErrForm,
		"1,-":                               api.ErrForm,
		"1,":                                api.ErrForm,
		",1":                                api.ErrForm,
		"1,,3":                              api.ErrForm,
		"-1":                                api.ErrForm,
		"1-":                                api.ErrForm,
		"1--2":                              api.ErrForm,
		"1-2-3":                             api.ErrForm,
		"1-3,4":                             api.ErrForm,
		"1,2":                               api.ErrForm,
		"1,2-3":                             api.ErrForm,
		"1-2,2-3":                           api.ErrForm,
		"1-2,3-4":                           api.ErrForm,
		"1-5,2-3":                           api.ErrForm,
		"1,1":                               api.ErrForm,
		"3-3":                               api.ErrForm,
		"3-2":                               api.ErrForm,
		"2,1":                               api.ErrForm,
		"10,9":                              api.ErrForm,
		"9,10":                              api.ErrForm,
		"10-9":                              api.ErrForm,
		"99,100":                            api.ErrForm,
		"01":                                api.ErrForm,
		"00":                                api.ErrForm,
		"0-01":                              api.ErrForm,
		"00-1":                              api.ErrForm,
		"+1":                                api.ErrForm,
		"1 2":                               api.ErrForm,
		"1, 3":                              api.ErrForm,
		" 1":                                api.ErrForm,
		"1\n":                               api.ErrForm,
		"a":                                 api.ErrForm,
		"1-a":                               api.ErrForm,
		"0-1000000001,1000000002":           api.ErrForm,
		"1000000001,1000000000":             api.ErrForm,
		"0-600,x":                           api.ErrForm,
		nines + "," + after:                 api.ErrForm,
		after + "," + nines:                 api.ErrForm,
		after + "-" + nines:                 api.ErrForm,
		nines + "-" + nines:                 api.ErrForm,
		nines + "," + nines:                 api.ErrForm,
		"1000000001":                        api.ErrRange,
		"0-1000000001":                      api.ErrRange,
		"0-600,1000000001":                  api.ErrRange,
		"9223372036854775808":               api.ErrRange,
		"18446744073709551617":              api.ErrRange,
		"0," + nines:                        api.ErrRange,
		"0-" + nines:                        api.ErrRange,
		nines + "-" + after:                 api.ErrRange,
		nines + "," + after[:300] + "1":     api.ErrRange,
		"0-500":                             api.ErrLong,
		"0-600":                             api.ErrLong,
		"0-1000000000":                      api.ErrLong,
		"0-249,251-501":                     api.ErrLong,
		"0-499,501":                         api.ErrLong,
		"0-499,501-1000000000":              api.ErrLong,
		everySecond(501):                    api.ErrLong,
		everySecond(100000):                 api.ErrLong,
		everySecond(100000) + ",1":          api.ErrForm,
		everySecond(100000) + ",2000000000": api.ErrRange,
	} {
		if l, e := words.ParseList(s); len(l) > 0 || e != want {
			t.Errorf("ParseList(%.50s): %d integers, %d, want %d", s, len(l), e, want)
		}
	}
}

// everySecond returns the list expression of the first n even numbers.
func everySecond(n int) string {
	var parts []string
	for i := range n {
		parts = append(parts, words.Digits(2*int64(i)))
	}
	return strings.Join(parts, ",")
}

// P1.6: 500 runs are not too many.
func TestParseListMany(t *testing.T) {
	s := everySecond(500)
	l, e := words.ParseList(s)
	if len(l) != 500 || e != api.OK {
		t.Errorf("ParseList of 500 integers: %d, %d", len(l), e)
	}
	if got, e := words.List(l); got != s || e != api.OK {
		t.Errorf("List of 500 integers: %.30s, %d", got, e)
	}
}

// P1.7: of all subsets of the numbers from 0 to 12.
func TestParseListOfList(t *testing.T) {
	for set := range 1 << 13 {
		var l []int
		for n := range 13 {
			if set>>n&1 == 1 {
				l = append(l, n)
			}
		}
		s, e := words.List(l)
		if e != api.OK {
			t.Fatalf("List(%v): %d", l, e)
		}
		if got, e := words.ParseList(s); !slices.Equal(got, l) || e != api.OK {
			t.Fatalf("ParseList of List of %v: %v, %d", l, got, e)
		}
	}
}

// P1.7
func TestListOfParseList(t *testing.T) {
	for _, s := range allStrings("0129-,", 6) {
		l, e := words.ParseList(s)
		switch e {
		case api.OK:
			if got, e := words.List(l); got != s || e != api.OK {
				t.Fatalf("List of ParseList of %s: %s, %d", s, got, e)
			}
		case api.ErrForm, api.ErrLong:
			if len(l) > 0 {
				t.Fatalf("ParseList(%s): %v, %d", s, l, e)
			}
		default:
			t.Fatalf("ParseList(%s): %d", s, e)
		}
	}
}

// P1.8: arguments stay, and results are new memory.
func TestListMemory(t *testing.T) {
	l := []int{1, 2, 3, 5}
	if _, e := words.List(l); e != api.OK || !slices.Equal(l, []int{1, 2, 3, 5}) {
		t.Errorf("List: %v, %d", l, e)
	}
	one, _ := words.ParseList("1-3,5")
	clear(one)
	if two, _ := words.ParseList("1-3,5"); !slices.Equal(two, l) {
		t.Errorf("ParseList: %v", two)
	}
}
