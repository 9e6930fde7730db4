package words

import (
	"iter"
	"strings"

	"groundling/api"
)

// Split returns the fields of a line.
func Split(line string) ([]api.Field, api.Errno) {
	if len(line) > api.MaxLine {
		return nil, api.ErrLong
	}
	var l []api.Field
	for f, ok := range fields(line) {
		if !ok {
			return nil, api.ErrForm
		}
		l = append(l, f)
	}
	if tooLong(l) {
		return nil, api.ErrLong
	}
	return l, api.OK
}

// Join returns the line of fields.
func Join(l []api.Field) (string, api.Errno) {
	if tooLong(l) {
		return "", api.ErrLong
	}
	written := make([]string, 0, len(l))
	for _, f := range l {
		if !f.Quoted && (f.S == "" || bareSize(f.S) < len(f.S)) {
			return "", api.ErrForm
		}
		written = append(written, write(f))
	}
	line := strings.Join(written, " ")
	if len(line) > api.MaxLine {
		return "", api.ErrLong
	}
	return line, api.OK
}

// Lines returns the lines of a text.
func Lines(text string) ([]string, api.Errno) {
	if len(text) > api.MaxText {
		return nil, api.ErrLong
	}
	if text == "" {
		return nil, api.OK
	}
	if !strings.HasSuffix(text, "\n") {
		return nil, api.ErrForm
	}
	if strings.Count(text, "\n") > api.MaxLines {
		return nil, api.ErrLong
	}
	var l []string
	for text != "" {
		line, rest, _ := strings.Cut(text, "\n")
		l = append(l, strings.Clone(line))
		text = rest
	}
	return l, api.OK
}

// fields yields the fields of a line, each with true; where no field can be read, it yields false, and ends.
func fields(line string) iter.Seq2[api.Field, bool] {
	return func(yield func(api.Field, bool) bool) {
		var f api.Field
		var size int
		rest := line
		if rest == "" {
			return
		}
	next:
		if strings.HasPrefix(rest, "\"") {
			goto quoted
		}
		size = bareSize(rest)
		f = api.Field{S: strings.Clone(rest[:size])}
		goto read
	quoted:
		f = api.Field{Quoted: true}
		f.S, size = readQuoted(rest)
	read:
		if size == 0 || size < len(rest) && rest[size] != ' ' {
			yield(api.Field{}, false)
			return
		}
		if !yield(f, true) || size == len(rest) {
			return
		}
		rest = rest[size+1:]
		goto next
	}
}

// bareSize returns with how many bytes s begins that a bare field may have.
func bareSize(s string) int {
	n := 0
	for n < len(s) && s[n] != ' ' && isPlain(s[n]) {
		n++
	}
	return n
}

// write returns the field as it is written in a line.
func write(f api.Field) string {
	if f.Quoted {
		return Quote(f.S)
	}
	return f.S
}

// tooLong reports whether there are too many fields for a line, or one has too long a string.
func tooLong(l []api.Field) bool {
	for _, f := range l {
		if len(f.S) > api.MaxField {
			return true
		}
	}
	return len(l) > api.MaxFields
}
