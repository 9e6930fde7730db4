package times

import (
	"strconv"
	"strings"

	"groundling/api"
)

// Lengths of time in seconds, which are the unit of times in texts.
const (
	minute = 60
	hour   = 60 * minute
	day    = 24 * hour
)

// Print returns the text of a time.
func Print(t int64) (string, api.Errno) {
	if !areTimes(t) {
		return "", api.ErrRange
	}
	clock := twoDigits(t%day/hour) + ":" + twoDigits(t%hour/minute) + ":" + twoDigits(t%minute)
	return strconv.FormatInt(t/day, 10) + "d" + clock, api.OK
}

// Parse returns the time whose text s is.
func Parse(s string) (int64, api.Errno) {
	t := read(s)
	// A time has a single text, so that a string which is none cannot be that of the number as which it is read.
	if text, e := Print(t); e != api.OK || text != s {
		return 0, api.ErrForm
	}
	return t, api.OK
}

// read returns the time whose text s is; of another string it returns some number, which may also be below 0.
func read(s string) int64 {
	days, clock, _ := strings.Cut(s, "d")
	hours, clock, _ := strings.Cut(clock, ":")
	minutes, seconds, _ := strings.Cut(clock, ":")
	return number(days)*day + number(hours)*hour + number(minutes)*minute + number(seconds)
}

// number returns the number whose digits s has; of another string, and of too many digits, it returns some number.
func number(s string) int64 {
	var n int64
	for i := 0; i < len(s); i++ {
		// Ten times a number is eight times it and twice it.
		n = n<<3 + n<<1 + int64(s[i]-'0')
	}
	return n
}

// twoDigits returns the decimal form of n, which is less than 100, with a digit 0 before it if it has only one.
func twoDigits(n int64) string {
	return string([]byte{byte('0' + n/10), byte('0' + n%10)})
}
