package words_test

import (
	"math/rand"
	"strings"
	"testing"

	"groundling/api"
	"groundling/words"
)

// escaped returns the byte c as the document's section 'Definitions' writes it.
func escaped(c byte) string {
	const hex = "0123456789abcdef"
	switch c {
	case '"':
		return "\\\""
	case '\\':
		return "\\\\"
	case 10:
		return "\\n"
	case 13:
		return "\\r"
	case 9:
		return "\\t"
	}
	if c >= 32 && c <= 126 {
		return string([]byte{c})
	}
	return string([]byte{'\\', 'x', hex[c/16], hex[c%16]})
}

// P1.2: each byte has one form alone.
func TestQuoteBytes(t *testing.T) {
	for i := range 256 {
		s := string([]byte{byte(i)})
		form := "\"" + escaped(byte(i)) + "\""
		if got := words.Quote(s); got != form {
			t.Errorf("Quote(%q): %s, want %s", s, got, form)
		}
		if got, e := words.Unquote(form); got != s || e != api.OK {
			t.Errorf("Unquote(%s): %q, %d", form, got, e)
		}
		for j := range 256 {
			other := "\"\\" + string([]byte{byte(j)}) + "\""
			if got, e := words.Unquote(other); e == api.OK && words.Quote(got) != other {
				t.Errorf("Unquote(%q): %q", other, got)
			}
		}
	}
}

// P1.2: of the escapes with digits just those are accepted that are needed.
func TestUnquoteDigits(t *testing.T) {
	accepted := 0
	for i := range 256 {
		for j := range 256 {
			form := "\"\\x" + string([]byte{byte(i), byte(j)}) + "\""
			got, e := words.Unquote(form)
			if e == api.OK {
				accepted++
				if len(got) != 1 || "\""+escaped(got[0])+"\"" != form {
					t.Errorf("Unquote(%q): %q", form, got)
				}
			} else if e != api.ErrForm || got != "" {
				t.Errorf("Unquote(%q): %q, %d", form, got, e)
			}
		}
	}
	if accepted != 256-95-3 {
		t.Errorf("%d bytes are escaped by digits", accepted)
	}
}

// P1.2
func TestQuote(t *testing.T) {
	for s, want := range map[string]string{
		"":             `""`,
		"a b":          `"a b"`,
		"a\n\x00\"":    `"a\n\x00\""`,
		"\\\r\t":       `"\\\r\t"`,
		"é":            `"\xc3\xa9"`,
		"\x7f\xff\x1f": `"\x7f\xff\x1f"`,
		"x41":          `"x41"`,
		"\\x41":        `"\\x41"`,
	} {
		if got := words.Quote(s); got != want {
			t.Errorf("Quote(%q): %s, want %s", s, got, want)
		}
		if got, e := words.Unquote(want); got != s || e != api.OK {
			t.Errorf("Unquote(%s): %q, %d", want, got, e)
		}
	}
}

// P1.2: any length.
func TestQuoteLong(t *testing.T) {
	s := strings.Repeat("a\x00\"", 1<<20)
	form := words.Quote(s)
	if len(form) != 7<<20+2 {
		t.Errorf("Quote of a long string has %d bytes", len(form))
	}
	if got, e := words.Unquote(form); got != s || e != api.OK {
		t.Errorf("Unquote of a long string: %d bytes, %d", len(got), e)
	}
}

// P1.2
func TestUnquoteForm(t *testing.T) {
	for _, s := range []string{"", `"`, `a`, `"a`, `a"`, `"a" `, ` "a"`, `"a"b"`, `"a""b"`, `""""`, `"\"`, `"\`, `"\x`, `"\x0`, `"\x00`, `"\x41"`, `"\x7F"`, `"\xFF"`, `"\x0a"`, `"\x0d"`, `"\x09"`, `"\x22"`, `"\x5c"`, `"\x20"`, `"\x7e"`, `"\x0"`, `"\x"`, `"\x0g"`, `"\xg0"`, `"\q"`, `"\a"`, `"\0"`, `"\'"`, `"\X00"`, `'a'`, "`a`", "\"\n\"", "\"\t\"", "\"\x7f\"", "\"\x00\"", "\"é\"", strings.Repeat(`"`, 9999)} {
		if got, e := words.Unquote(s); got != "" || e != api.ErrForm {
			t.Errorf("Unquote(%.20q): %q, %d", s, got, e)
		}
	}
}

// P1.7
func TestUnquoteOfQuote(t *testing.T) {
	r := rand.New(rand.NewSource(1))
	for range 2000 {
		b := make([]byte, r.Intn(40))
		r.Read(b)
		if got, e := words.Unquote(words.Quote(string(b))); got != string(b) || e != api.OK {
			t.Fatalf("Unquote of Quote of %q: %q, %d", b, got, e)
		}
	}
}

// P1.7
func TestQuoteOfUnquote(t *testing.T) {
	for _, s := range allStrings("\"\\nx07a", 5) {
		got, e := words.Unquote(s)
		if e == api.OK && words.Quote(got) != s || e != api.OK && (e != api.ErrForm || got != "") {
			t.Fatalf("Unquote(%q): %q, %d", s, got, e)
		}
	}
}
