package words_test

import (
	"math"
	"math/big"
	"strings"
	"testing"

	"groundling/api"
	"groundling/words"
)

// allStrings returns all strings of at most most bytes of the alphabet.
func allStrings(alphabet string, most int) []string {
	all := []string{""}
	for from := 0; most > 0; most-- {
		to := len(all)
		for _, s := range all[from:to] {
			for i := range len(alphabet) {
				all = append(all, s+alphabet[i:i+1])
			}
		}
		from = to
	}
	return all
}

// P1.1
func TestName(t *testing.T) {
	good := []string{"a", "z", "web-1", "a-", "a--", "a0", "z9", "abcdefghijklmnop", "a123456789012345"}
	for _, s := range good {
		if !words.Name(s) {
			t.Errorf("Name(%q) is false", s)
		}
	}
	bad := []string{"", "1a", "0", "-a", "-", "Web", "wEb", "a_b", "a b", " a", "a ", "a.", "a\n", "é", "aé", "a\x00", "a{", "a`", "a/", "a:", "abcdefghijklmnopq", strings.Repeat("a", 100000)}
	for _, s := range bad {
		if words.Name(s) {
			t.Errorf("Name(%.20q) is true", s)
		}
	}
}

// P1.1: which bytes a name may have, first and later.
func TestNameBytes(t *testing.T) {
	for i := range 256 {
		c := string([]byte{byte(i)})
		letter := strings.Contains("abcdefghijklmnopqrstuvwxyz", c)
		if words.Name(c) != letter {
			t.Errorf("Name(%q): %v", c, !letter)
		}
		later := letter || strings.Contains("0123456789-", c)
		if words.Name("a"+c) != later || words.Name("a"+c+"b") != later {
			t.Errorf("Name with %q after its first byte: not %v", c, later)
		}
	}
}

// P1.1
func TestInt(t *testing.T) {
	for _, x := range []struct {
		s         string
		low, high int64
		n         int64
		e         api.Errno
	}{
		{"0", 0, 0, 0, api.OK},
		{"5", 5, 5, 5, api.OK},
		{"-5", -5, -5, -5, api.OK},
		{"10", 0, 10, 10, api.OK},
		{"-12", -20, 20, -12, api.OK},
		{"12", 0, 10, 0, api.ErrRange},
		{"-1", 0, 10, 0, api.ErrRange},
		{"4", 5, 3, 0, api.ErrRange},
		{"0", math.MaxInt64, math.MinInt64, 0, api.ErrRange},
		{"9223372036854775807", math.MinInt64, math.MaxInt64, math.MaxInt64, api.OK},
		{"9223372036854775808", math.MinInt64, math.MaxInt64, 0, api.ErrRange},
		{"18446744073709551617", math.MinInt64, math.MaxInt64, 0, api.ErrRange},
		{"-9223372036854775808", math.MinInt64, math.MaxInt64, math.MinInt64, api.OK},
		{"-9223372036854775809", math.MinInt64, math.MaxInt64, 0, api.ErrRange},
		{strings.Repeat("1", 1000), math.MinInt64, math.MaxInt64, 0, api.ErrRange},
		{"-" + strings.Repeat("1", 1000), math.MinInt64, math.MaxInt64, 0, api.ErrRange},
	} {
		if n, e := words.Int(x.s, x.low, x.high); n != x.n || e != x.e {
			t.Errorf("Int(%.30s, %d, %d): %d, %d", x.s, x.low, x.high, n, e)
		}
	}
}

// P1.1: ErrForm comes before ErrRange, and what looks like a number elsewhere has no decimal form here.
func TestIntForm(t *testing.T) {
	bad := []string{"", "-", "--5", "007", "00", "-0", "-00", "-01", "+1", "+0", " 1", "1 ", "1x", "x", "1_000", "0x10", "0b1", "1.0", "1e3", "1-", "1\n", "\x00", "٣", "-" + strings.Repeat("0", 50), strings.Repeat("1", 400) + "a"}
	for _, s := range bad {
		for _, high := range []int64{math.MinInt64, 10, math.MaxInt64} {
			if n, e := words.Int(s, math.MinInt64, high); n != 0 || e != api.ErrForm {
				t.Errorf("Int(%.30q): %d, %d", s, n, e)
			}
		}
	}
	for i := range 256 {
		c := byte(i)
		if _, e := words.Int(string([]byte{'1', c}), 0, 99); (e == api.OK) != (c >= '0' && c <= '9') {
			t.Errorf("Int of 1 and the byte %d: %d", c, e)
		}
	}
}

// P1.1
func TestDigits(t *testing.T) {
	for n, want := range map[int64]string{0: "0", 7: "7", -1: "-1", 10: "10", -100: "-100", math.MaxInt64: "9223372036854775807", math.MinInt64: "-9223372036854775808"} {
		if got := words.Digits(n); got != want {
			t.Errorf("Digits(%d): %s", n, got)
		}
	}
}

// P1.7
func TestIntOfDigits(t *testing.T) {
	check := func(n int64) {
		if got, e := words.Int(words.Digits(n), math.MinInt64, math.MaxInt64); got != n || e != api.OK {
			t.Errorf("Int of Digits of %d: %d, %d", n, got, e)
		}
	}
	for k := range 64 {
		for d := int64(-2); d <= 2; d++ {
			check(int64(1)<<k + d)
			check(-(int64(1) << k) + d)
		}
	}
}

// P1.7: of all short strings just those are accepted that Digits returns.
func TestDigitsOfInt(t *testing.T) {
	for _, s := range allStrings("019-+ a", 5) {
		n, e := words.Int(s, math.MinInt64, math.MaxInt64)
		b, ok := new(big.Int).SetString(s, 10)
		canonical := ok && b.String() == s
		if (e == api.OK) != canonical || e != api.OK && (n != 0 || e != api.ErrForm) {
			t.Fatalf("Int(%q): %d, %d", s, n, e)
		}
		if e == api.OK && words.Digits(n) != s {
			t.Fatalf("Digits of Int of %q: %q", s, words.Digits(n))
		}
	}
}
