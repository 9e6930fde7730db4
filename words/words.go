// Package words is layer 1: see shared/doc/01-words.md. It reads and writes names, decimal numbers, quoted strings, lines of fields, and lists of numbers.
package words

import (
	"strconv"
	"strings"

	"groundling/api"
)

// Name reports whether s is a name.
func Name(s string) bool {
	if len(s) < 1 || len(s) > api.MaxWord || !isLetter(s[0]) {
		return false
	}
	for i := 1; i < len(s); i++ {
		if c := s[i]; !isLetter(c) && !isDigit(c) && c != '-' {
			return false
		}
	}
	return true
}

// Int returns the integer whose decimal form s is, if it is from low to high.
func Int(s string, low, high int64) (int64, api.Errno) {
	if !isDecimal(s) {
		return 0, api.ErrForm
	}
	// The form is right, so an error can only mean that the integer is no int64.
	n, err := strconv.ParseInt(s, 10, 64)
	if err != nil || n < low || n > high {
		return 0, api.ErrRange
	}
	return n, api.OK
}

// Digits returns the decimal form of n.
func Digits(n int64) string {
	return strconv.FormatInt(n, 10)
}

// isDecimal reports whether s is the decimal form of an integer of any size.
func isDecimal(s string) bool {
	return s != "-0" && isNatural(strings.TrimPrefix(s, "-"))
}

// isNatural reports whether s is the decimal form of an integer of any size that is not negative.
func isNatural(s string) bool {
	for i := 0; i < len(s); i++ {
		if !isDigit(s[i]) {
			return false
		}
	}
	return s == "0" || s != "" && s[0] != '0'
}

func isLetter(c byte) bool {
	return c >= 'a' && c <= 'z'
}

func isDigit(c byte) bool {
	return c >= '0' && c <= '9'
}
