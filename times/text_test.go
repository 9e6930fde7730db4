package times_test

import (
	"fmt"
	"math/big"
	"math/rand"
	"regexp"
	"strings"
	"testing"

	"groundling/api"
	"groundling/times"
)

// texts has the texts of some times.
func texts() map[int64]string {
	return map[int64]string{
		0:                                 "0d00:00:00",
		1:                                 "0d00:00:01",
		9:                                 "0d00:00:09",
		10:                                "0d00:00:10",
		59:                                "0d00:00:59",
		60:                                "0d00:01:00",
		3599:                              "0d00:59:59",
		3600:                              "0d01:00:00",
		86399:                             "0d23:59:59",
		86400:                             "1d00:00:00",
		93784:                             "1d02:03:04",
		10*86400 - 1:                      "9d23:59:59",
		10 * 86400:                        "10d00:00:00",
		api.MaxTTL:                        "11574d01:46:40",
		1<<31 - 1:                         "24855d03:14:07",
		1 << 32:                           "49710d06:28:16",
		86400*100000000000000 + 12*3600:   "100000000000000d12:00:00",
		86400*99999999999999 + 86399:      "99999999999999d23:59:59",
		api.MaxTime - 55807:               "106751991167300d00:00:00",
		api.MaxTime - 55808:               "106751991167299d23:59:59",
		api.MaxTime - 1:                   "106751991167300d15:30:06",
		api.MaxTime:                       "106751991167300d15:30:07",
		86400*106751991167299 + 15*3600:   "106751991167299d15:00:00",
		86400*106751991167300 + 30*60 + 7: "106751991167300d00:30:07",
	}
}

// form is the form of texts; a text of this form may be of too many days.
var form = regexp.MustCompile(`^(0|[1-9][0-9]*)d([01][0-9]|2[0-3]):([0-5][0-9]):([0-5][0-9])$`)

// parse is Parse, as the chapter defines it.
func parse(s string) (int64, api.Errno) {
	parts := form.FindStringSubmatch(s)
	if parts == nil {
		return 0, api.ErrForm
	}
	t := new(big.Int)
	for i, many := range []int64{1, 24, 60, 60} {
		n, _ := new(big.Int).SetString(parts[i+1], 10)
		t.Add(t.Mul(t, big.NewInt(many)), n)
	}
	if !t.IsInt64() {
		return 0, api.ErrForm
	}
	return t.Int64(), api.OK
}

// checkParse checks that Parse accepts s exactly if it is a text, and that Print writes it then.
func checkParse(t *testing.T, s string) {
	t.Helper()
	got, e := times.Parse(s)
	if want, we := parse(s); got != want || e != we {
		t.Fatalf("Parse of %.60q: %d, %d, want %d, %d", s, got, e, want, we)
	}
	if e != api.OK {
		return
	}
	if again, e := times.Print(got); again != s || e != api.OK {
		t.Fatalf("Print of Parse of %q: %q, %d", s, again, e)
	}
}

// P5.4
func TestPrintAndParse(t *testing.T) {
	for n, text := range texts() {
		if got, e := times.Print(n); got != text || e != api.OK {
			t.Errorf("Print of %d: %q, %d, want %q", n, got, e, text)
		}
		if got, e := times.Parse(text); got != n || e != api.OK {
			t.Errorf("Parse of %q: %d, %d, want %d", text, got, e, n)
		}
	}
}

// P5.4
func TestPrintRange(t *testing.T) {
	for _, n := range noTimes {
		if got, e := times.Print(n); got != "" || e != api.ErrRange {
			t.Errorf("Print of %d: %q, %d", n, got, e)
		}
	}
}

// P5.4 and P5.8: Parse of Print is the time.
func TestParseOfPrint(t *testing.T) {
	all := edges()
	for n := range int64(200000) {
		all = append(all, n, api.MaxTime-n)
	}
	r := rand.New(rand.NewSource(8))
	for range 20000 {
		all = append(all, r.Int63()>>r.Intn(63))
	}
	for _, n := range all {
		want := fmt.Sprintf("%dd%02d:%02d:%02d", n/86400, n/3600%24, n/60%60, n%60)
		text, e := times.Print(n)
		if text != want || e != api.OK {
			t.Fatalf("Print of %d: %q, %d, want %q", n, text, e, want)
		}
		if got, e := times.Parse(text); got != n || e != api.OK {
			t.Fatalf("Parse of %q: %d, %d, want %d", text, got, e, n)
		}
	}
}

// P5.4
func TestParseForm(t *testing.T) {
	for _, s := range []string{
		"", "d", ":", "::", "d::", "0", "0d", "d00:00:00", "00:00:00", "0d00", "0d00:00", "0d00:00:", "0d:00:00", "0d00::00", "0d00:00:00:00", "0d00:00:00d", "0d0d00:00:00",
		"0d0:00:00", "0d00:0:00", "0d00:00:0", "1d2:03:04", "1d02:3:04", "1d02:03:4", "0d000:00:00", "0d00:000:00", "0d00:00:000", "0d00:00:001", "0d001:00:00",
		"0d00:00:60", "0d00:60:00", "0d24:00:00", "0d00:00:61", "0d00:00:99", "0d00:99:00", "0d99:00:00", "0d25:00:00", "0d30:00:00", "0d23:59:60", "0d23:60:00",
		"00d00:00:00", "01d02:03:04", "001d02:03:04", "000000000000001d02:03:04", strings.Repeat("0", 1000) + "1d02:03:04",
		"-1d02:03:04", "-0d00:00:00", "+1d02:03:04", "+0d00:00:00", "1d-2:03:04", "1d+2:03:04", "1d02:-3:04", "1d02:+3:04", "1d02:03:-4", "1d02:03:+4",
		" 1d02:03:04", "1d02:03:04 ", "1 d02:03:04", "1d 2:03:04", "1d02:03: 4", "1d02: 3:04", "1d02:03:04\n", "\n1d02:03:04", "1d02:03:04\x00", "1d02.03.04", "1d020304", "1d02:0304", "1d02-03-04", "1D02:03:04", "1d02;03;04",
		"1dx2:03:04", "1d0x:03:04", "xd02:03:04", "1d02:03:0a", "1d02:03:a0", "1_0d02:03:04", "1,000d02:03:04", "0x1d02:03:04", "1e3d02:03:04", "1.0d02:03:04", "1d02:03:04.0", "١d02:03:04", "１d02:03:04", "1h02:03:04", "1d02h03m04s", "93784",
		"106751991167300d15:30:08", "106751991167300d15:31:00", "106751991167300d16:00:00", "106751991167300d23:59:59", "106751991167301d00:00:00", "106751991167310d00:00:00", "200000000000000d00:00:00", "999999999999999d23:59:59", "1000000000000000d00:00:00", "1067519911673000d00:00:00",
		"213503982334601d07:00:16", "213503982334602d09:03:20", "18446744073709551616d00:00:00", "18446744073709551617d02:03:04", strings.Repeat("9", 100000) + "d00:00:00", strings.Repeat("1", 1<<20),
	} {
		if got, e := times.Parse(s); got != 0 || e != api.ErrForm {
			t.Errorf("Parse of %.60q: %d, %d", s, got, e)
		}
		checkParse(t, s)
	}
}

// P5.4: numbers that are that of a time again, once they have wrapped around.
func TestParseWrapped(t *testing.T) {
	whole := new(big.Int).Lsh(big.NewInt(1), 64)
	for n := range texts() {
		for rounds := int64(1); rounds < 100; rounds++ {
			sum := new(big.Int).Add(big.NewInt(n), new(big.Int).Mul(whole, big.NewInt(rounds)))
			days, rest := new(big.Int).DivMod(sum, big.NewInt(86400), new(big.Int))
			clock := rest.Int64()
			s := fmt.Sprintf("%sd%02d:%02d:%02d", days, clock/3600, clock/60%60, clock%60)
			if got, e := times.Parse(s); got != 0 || e != api.ErrForm {
				t.Errorf("Parse of %q: %d, %d", s, got, e)
			}
			s = fmt.Sprintf("%sd%02d:%02d:%02d", new(big.Int).Add(whole, big.NewInt(n)), 1, 2, 3)
			if got, e := times.Parse(s); got != 0 || e != api.ErrForm {
				t.Errorf("Parse of %q: %d, %d", s, got, e)
			}
		}
	}
}

// P5.4 and P5.8: texts with a byte that is another one, with one more, and with one less.
func TestParseChanged(t *testing.T) {
	for _, text := range texts() {
		for i := range len(text) + 1 {
			for c := range 256 {
				b := string([]byte{byte(c)})
				checkParse(t, text[:i]+b+text[i:])
				if i < len(text) {
					checkParse(t, text[:i]+b+text[i+1:])
				}
			}
			checkParse(t, text[:i])
			checkParse(t, text[i:])
			if i < len(text) {
				checkParse(t, text[:i]+text[i+1:])
			}
		}
	}
}

// P5.4: each number from 0 to 99 as hours, as minutes and as seconds.
func TestParseClock(t *testing.T) {
	for n := range 100 {
		for _, days := range []string{"0", "7", "106751991167299", "106751991167300"} {
			checkParse(t, fmt.Sprintf("%sd%02d:00:00", days, n))
			checkParse(t, fmt.Sprintf("%sd00:%02d:00", days, n))
			checkParse(t, fmt.Sprintf("%sd00:00:%02d", days, n))
			checkParse(t, fmt.Sprintf("%sd15:30:%02d", days, n))
			checkParse(t, fmt.Sprintf("%sd15:%02d:07", days, n))
			checkParse(t, fmt.Sprintf("%sd%02d:30:07", days, n))
			checkParse(t, fmt.Sprintf("%sd%d:%d:%d", days, n, n, n))
			checkParse(t, fmt.Sprintf("%sd%03d:%02d:%02d", days, n, n, n))
		}
	}
}

// P5.4 and P5.8: any strings are accepted.
func TestParseAny(t *testing.T) {
	r := rand.New(rand.NewSource(9))
	for range 100000 {
		b := make([]byte, r.Intn(27))
		for i := range b {
			b[i] = "0123456789dd:::-+ x\x00\xff"[r.Intn(21)]
		}
		checkParse(t, string(b))
	}
}
