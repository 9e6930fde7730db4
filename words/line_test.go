package words_test

import (
	"math/rand"
	"slices"
	"strings"
	"testing"

	"groundling/api"
	"groundling/words"
)

func bare(s string) api.Field   { return api.Field{S: s} }
func quoted(s string) api.Field { return api.Field{S: s, Quoted: true} }

func repeat(n int, f api.Field) []api.Field { return slices.Repeat([]api.Field{f}, n) }

// P1.3 and P1.4
func TestSplitAndJoin(t *testing.T) {
	for line, want := range map[string][]api.Field{
		"":                             nil,
		"a":                            {bare("a")},
		"get / \"a b\"":                {bare("get"), bare("/"), quoted("a b")},
		"\"\"":                         {quoted("")},
		"\"\" \"\"":                    {quoted(""), quoted("")},
		"a \"\" b":                     {bare("a"), quoted(""), bare("b")},
		"\" \"":                        {quoted(" ")},
		"\"a  b\" c":                   {quoted("a  b"), bare("c")},
		"\"\\\"\" \"\\n\" \"\\\\\"":    {quoted("\""), quoted("\n"), quoted("\\")},
		"\"\\\" \\\"\" a":              {quoted("\" \""), bare("a")},
		"! ~ x='1' - 0":                {bare("!"), bare("~"), bare("x='1'"), bare("-"), bare("0")},
		strings.Repeat("a", 2000):      {bare(strings.Repeat("a", 2000))},
		strings.Repeat("b ", 63) + "b": repeat(64, bare("b")),
		"\"" + strings.Repeat("\\x00", 2000) + "\"": {quoted(strings.Repeat("\x00", 2000))},
	} {
		if l, e := words.Split(line); !slices.Equal(l, want) || e != api.OK {
			t.Errorf("Split(%.30q): %v, %d", line, l, e)
		}
		if got, e := words.Join(want); got != line || e != api.OK {
			t.Errorf("Join of the fields of %.30q: %.30q, %d", line, got, e)
		}
	}
}

// P1.3
func TestSplitErrors(t *testing.T) {
	for line, want := range map[string]api.Errno{
		" ":                               api.ErrForm,
		"  ":                              api.ErrForm,
		" a":                              api.ErrForm,
		"a ":                              api.ErrForm,
		"a  b":                            api.ErrForm,
		"\"a\" ":                          api.ErrForm,
		"a\tb":                            api.ErrForm,
		"a\n":                             api.ErrForm,
		"a\"b":                            api.ErrForm,
		"a\"b\"":                          api.ErrForm,
		"\"a\"b":                          api.ErrForm,
		"\"":                              api.ErrForm,
		"\"a":                             api.ErrForm,
		"a \"":                            api.ErrForm,
		"a\\b":                            api.ErrForm,
		"\x7f":                            api.ErrForm,
		"\x00":                            api.ErrForm,
		"é":                               api.ErrForm,
		"\"é\"":                           api.ErrForm,
		"\"\\x41\"":                       api.ErrForm,
		"\"a\"\"b\"":                      api.ErrForm,
		"\"a\"\t\"b\"":                    api.ErrForm,
		strings.Repeat("a ", 64) + "a":    api.ErrLong,
		strings.Repeat("a ", 4095) + "aa": api.ErrLong,
		strings.Repeat("a", 2001):         api.ErrLong,
		strings.Repeat("a", 8192):         api.ErrLong,
		strings.Repeat("a", 8193):         api.ErrLong,
		strings.Repeat(" ", 8192):         api.ErrForm,
		strings.Repeat(" ", 8193):         api.ErrLong,
		"\"" + strings.Repeat("\\x00", 2001) + "\"": api.ErrLong,
		"b \"" + strings.Repeat("a", 2001) + "\" c": api.ErrLong,
		strings.Repeat("a ", 64):                    api.ErrForm,
		strings.Repeat("a ", 64) + "\"":             api.ErrForm,
		strings.Repeat("a", 2001) + " ":             api.ErrForm,
		strings.Repeat("a", 2001) + "\"":            api.ErrForm,
		strings.Repeat("a", 2001) + " \"\\q\"":      api.ErrForm,
		"\"" + strings.Repeat("a", 2001) + "\"b":    api.ErrForm,
		"\"" + strings.Repeat("a", 8190) + "\"":     api.ErrLong,
		"\"" + strings.Repeat("a", 8191) + "\"":     api.ErrLong,
	} {
		if l, e := words.Split(line); len(l) > 0 || e != want {
			t.Errorf("Split(%.30q), %d bytes: %d fields, %d, want %d", line, len(line), len(l), e, want)
		}
	}
}

// P1.3 and P1.4: a line of 8192 bytes is one.
func TestLongestLine(t *testing.T) {
	l := append(repeat(4, bare(strings.Repeat("a", 2000))), bare(strings.Repeat("b", 188)))
	line, e := words.Join(l)
	if len(line) != api.MaxLine || e != api.OK {
		t.Errorf("Join: %d bytes, %d", len(line), e)
	}
	if got, e := words.Split(line); !slices.Equal(got, l) || e != api.OK {
		t.Errorf("Split of the longest line: %d fields, %d", len(got), e)
	}
	l[4].S += "b"
	if line, e := words.Join(l); line != "" || e != api.ErrLong {
		t.Errorf("Join: %d bytes, %d", len(line), e)
	}
}

// P1.4
func TestJoinErrors(t *testing.T) {
	long := strings.Repeat("a", 2001)
	for i, x := range []struct {
		l []api.Field
		e api.Errno
	}{
		{repeat(64, bare("a")), api.OK},
		{repeat(65, bare("a")), api.ErrLong},
		{repeat(65, bare("")), api.ErrLong},
		{repeat(65, quoted("")), api.ErrLong},
		{[]api.Field{bare(long)}, api.ErrLong},
		{[]api.Field{quoted(long)}, api.ErrLong},
		{[]api.Field{bare(""), bare(long)}, api.ErrLong},
		{[]api.Field{bare(" "), quoted(long)}, api.ErrLong},
		{[]api.Field{{}}, api.ErrForm},
		{[]api.Field{bare("a"), bare("")}, api.ErrForm},
		{[]api.Field{bare("a b")}, api.ErrForm},
		{[]api.Field{bare("a ")}, api.ErrForm},
		{[]api.Field{bare("a\"")}, api.ErrForm},
		{[]api.Field{bare("\"a\"")}, api.ErrForm},
		{[]api.Field{bare("a\n")}, api.ErrForm},
		{[]api.Field{quoted(""), bare("\\")}, api.ErrForm},
		{append(repeat(5, bare(strings.Repeat("a", 2000))), bare("")), api.ErrForm},
		{repeat(5, bare(strings.Repeat("a", 2000))), api.ErrLong},
		{repeat(64, quoted(strings.Repeat("\x00", 2000))), api.ErrLong},
		{[]api.Field{quoted(strings.Repeat("\x00", 2000)), bare(strings.Repeat("a", 189))}, api.OK},
		{[]api.Field{quoted(strings.Repeat("\x00", 2000)), bare(strings.Repeat("a", 190))}, api.ErrLong},
	} {
		if line, e := words.Join(x.l); e != x.e || (line == "") != (e != api.OK) {
			t.Errorf("%d: Join: %.30q, %d, want %d", i, line, e, x.e)
		}
	}
}

// P1.4: which bytes a bare field may have.
func TestBareBytes(t *testing.T) {
	for i := range 256 {
		s := "a" + string([]byte{byte(i)})
		may := i >= 33 && i <= 126 && i != '"' && i != '\\'
		if line, e := words.Join([]api.Field{bare(s)}); may != (e == api.OK && line == s) || !may && e != api.ErrForm {
			t.Errorf("Join of %q: %q, %d", s, line, e)
		}
		if l, e := words.Split(s); may != (e == api.OK && slices.Equal(l, []api.Field{bare(s)})) || !may && e != api.ErrForm {
			t.Errorf("Split(%q): %v, %d", s, l, e)
		}
	}
}

// randomFields returns up to most fields that a line may have.
func randomFields(r *rand.Rand, least, most int) []api.Field {
	var l []api.Field
	for range least + r.Intn(most-least+1) {
		b := make([]byte, 1+r.Intn(9))
		r.Read(b)
		if r.Intn(2) == 0 {
			l = append(l, quoted(string(b[1:])))
			continue
		}
		for i := range b {
			b[i] = "ab/-'.~!0123456"[b[i]&15%15]
		}
		l = append(l, bare(string(b)))
	}
	return l
}

// P1.7
func TestSplitOfJoin(t *testing.T) {
	r := rand.New(rand.NewSource(2))
	for range 2000 {
		l := randomFields(r, 0, 64)
		line, e := words.Join(l)
		if e != api.OK {
			t.Fatalf("Join(%v): %d", l, e)
		}
		if got, e := words.Split(line); !slices.Equal(got, l) || e != api.OK {
			t.Fatalf("Split of Join of %v: %v, %d", l, got, e)
		}
	}
}

// P1.7
func TestJoinOfSplit(t *testing.T) {
	accepted := 0
	for _, s := range allStrings("a \"\\nx0", 6) {
		l, e := words.Split(s)
		if e != api.OK {
			if e != api.ErrForm || len(l) > 0 {
				t.Fatalf("Split(%q): %v, %d", s, l, e)
			}
			continue
		}
		accepted++
		if got, e := words.Join(l); got != s || e != api.OK {
			t.Fatalf("Join of Split of %q: %q, %d", s, got, e)
		}
	}
	if accepted == 0 {
		t.Error("no line is accepted")
	}
}

// P1.8
func TestJoinOfBoth(t *testing.T) {
	r := rand.New(rand.NewSource(3))
	for range 1000 {
		a, b := randomFields(r, 1, 32), randomFields(r, 1, 32)
		one, e1 := words.Join(a)
		two, e2 := words.Join(b)
		both, e3 := words.Join(slices.Concat(a, b))
		if e1 != api.OK || e2 != api.OK || e3 != api.OK || one+" "+two != both {
			t.Fatalf("%q (%d), %q (%d), both %q (%d)", one, e1, two, e2, both, e3)
		}
	}
}

// P1.5
func TestLines(t *testing.T) {
	for text, want := range map[string][]string{
		"":                                  nil,
		"\n":                                {""},
		"a\n":                               {"a"},
		"a\nb\n":                            {"a", "b"},
		"a\n\n b\r\n":                       {"a", "", " b\r"},
		"\n\n":                              {"", ""},
		"\x00\xff\n\"\n":                    {"\x00\xff", "\""},
		strings.Repeat("x", 1<<20-1) + "\n": {strings.Repeat("x", 1<<20-1)},
		strings.Repeat("\n", 5000):          make([]string, 5000),
	} {
		if l, e := words.Lines(text); !slices.Equal(l, want) || e != api.OK {
			t.Errorf("Lines(%.30q): %d lines, %d", text, len(l), e)
		}
	}
	for text, want := range map[string]api.Errno{
		"a":                                 api.ErrForm,
		"a\nb":                              api.ErrForm,
		"\r":                                api.ErrForm,
		"\n ":                               api.ErrForm,
		strings.Repeat("\n", 5001):          api.ErrLong,
		strings.Repeat("\n", 5001) + "x":    api.ErrForm,
		strings.Repeat("x", 1<<20):          api.ErrForm,
		strings.Repeat("x", 1<<20) + "\n":   api.ErrLong,
		strings.Repeat("x", 1<<20+1):        api.ErrLong,
		strings.Repeat("\n", 1<<20):         api.ErrLong,
		strings.Repeat("\n", 1<<20-1) + "x": api.ErrForm,
	} {
		if l, e := words.Lines(text); len(l) > 0 || e != want {
			t.Errorf("Lines(%.30q), %d bytes: %d lines, %d, want %d", text, len(text), len(l), e, want)
		}
	}
}

// P1.8: arguments stay, and results are new memory.
func TestLineMemory(t *testing.T) {
	l := []api.Field{bare("a"), quoted("b c")}
	kept := slices.Clone(l)
	if _, e := words.Join(l); e != api.OK || !slices.Equal(l, kept) {
		t.Errorf("Join: %v, %d", l, e)
	}
	one, _ := words.Split("a \"b c\"")
	one[0], one[1] = bare("x"), bare("y")
	if two, _ := words.Split("a \"b c\""); !slices.Equal(two, kept) {
		t.Errorf("Split: %v", two)
	}
	lines, _ := words.Lines("a\nb\n")
	lines[0] = "x"
	if again, _ := words.Lines("a\nb\n"); !slices.Equal(again, []string{"a", "b"}) {
		t.Errorf("Lines: %v", again)
	}
}
