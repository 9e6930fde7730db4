package words

import (
	"strings"

	"groundling/api"
)

// hexDigits has the digit of each value from 0 to 15 at this place.
const hexDigits = "0123456789abcdef"

// escape is a byte that is written as a backslash and a letter.
type escape struct{ raw, letter byte }

var escapes = [5]escape{{'"', '"'}, {'\\', '\\'}, {'\n', 'n'}, {'\r', 'r'}, {'\t', 't'}}

// Quote returns the quoted form of s.
func Quote(s string) string {
	b := []byte{'"'}
	for i := 0; i < len(s); i++ {
		b = appendEscaped(b, s[i])
	}
	return string(append(b, '"'))
}

// Unquote returns the string whose quoted form s is.
func Unquote(s string) (string, api.Errno) {
	value, size := readQuoted(s)
	if size == 0 || size < len(s) {
		return "", api.ErrForm
	}
	return value, api.OK
}

// appendEscaped returns b and after it the byte c as it is written in quotes.
func appendEscaped(b []byte, c byte) []byte {
	if isPlain(c) {
		return append(b, c)
	}
	if letter, ok := letterOf(c); ok {
		return append(b, '\\', letter)
	}
	return append(b, '\\', 'x', hexDigits[c>>4], hexDigits[c&15])
}

// readQuoted returns the string whose quoted form s begins with, and how many bytes this form has: 0, if there is none.
func readQuoted(s string) (value string, size int) {
	if !strings.HasPrefix(s, "\"") {
		return "", 0
	}
	var b []byte
	for i := 1; i < len(s); {
		if s[i] == '"' {
			return string(b), i + 1
		}
		c, n := readEscaped(s[i:])
		if n == 0 {
			return "", 0
		}
		b = append(b, c)
		i += n
	}
	return "", 0
}

// readEscaped returns the byte that s begins with, as it is written in quotes, and how many bytes it is written in: 0, if there is none. A byte is only accepted in the one way in which it is to be written, so that a string has no second form.
func readEscaped(s string) (c byte, size int) {
	switch {
	case isPlain(s[0]):
		return s[0], 1
	case s[0] != '\\' || len(s) < 2:
		return 0, 0
	case s[1] != 'x':
		if raw, ok := rawOf(s[1]); ok {
			return raw, 2
		}
		return 0, 0
	case len(s) < 4:
		return 0, 0
	}
	high, low := strings.IndexByte(hexDigits, s[2]), strings.IndexByte(hexDigits, s[3])
	if high < 0 || low < 0 {
		return 0, 0
	}
	c = byte(high<<4 | low)
	if _, short := letterOf(c); short || isPlain(c) {
		return 0, 0
	}
	return c, 4
}

// letterOf returns the letter of the escape of the byte raw, if it has one with a letter.
func letterOf(raw byte) (byte, bool) {
	for _, e := range escapes {
		if e.raw == raw {
			return e.letter, true
		}
	}
	return 0, false
}

// rawOf returns the byte whose escape has the letter, if there is one.
func rawOf(letter byte) (byte, bool) {
	for _, e := range escapes {
		if e.letter == letter {
			return e.raw, true
		}
	}
	return 0, false
}

// isPlain reports whether c stands for itself in quotes.
func isPlain(c byte) bool {
	return c >= 32 && c <= 126 && c != '"' && c != '\\'
}
