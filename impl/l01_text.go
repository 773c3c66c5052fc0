package impl

import "strings"

const (
	largestNumber  = 999999
	largestInteger = 999999999999
	longestJoin    = 1048576
)

// FormatInt returns n in decimal.
func FormatInt(n int) string {
	rest := magnitude(n)
	count := countDigits(rest)
	digits := make([]byte, count)
	for step := range count {
		digits[count-1-step] = byte('0' + rest%10)
		rest /= 10
	}
	if n < 0 {
		return "-" + string(digits)
	}
	return string(digits)
}

// magnitude returns n without its sign. It is unsigned because the least
// integer has no positive counterpart among the signed ones.
func magnitude(n int) uint64 {
	if n < 0 {
		return -uint64(n)
	}
	return uint64(n)
}

// countDigits returns the number of decimal digits of n, which is 1 for 0.
func countDigits(n uint64) int {
	count := 1
	for n >= 10 {
		n /= 10
		count++
	}
	return count
}

// ParseNumber returns the number from 0 to 999999 whose FormatInt is s.
func ParseNumber(s string) (int, bool) {
	return parseDigits(s, largestNumber)
}

// ParseInt returns the number from -999999999999 to 999999999999 whose
// FormatInt is s.
func ParseInt(s string) (int, bool) {
	digits, negative := strings.CutPrefix(s, "-")
	n, ok := parseDigits(digits, largestInteger)
	if !negative {
		return n, ok
	}
	// FormatInt never writes -0.
	if n == 0 {
		return 0, false
	}
	return -n, ok
}

// parseDigits returns the number from 0 to most whose FormatInt is s. The limit
// is tested after each digit, so that a long s neither overflows nor is read to
// its end.
func parseDigits(s string, most int) (int, bool) {
	if s == "" || len(s) > 1 && s[0] == '0' {
		return 0, false
	}
	n := 0
	for i := range len(s) {
		if s[i] < '0' || s[i] > '9' {
			return 0, false
		}
		n = n*10 + int(s[i]-'0')
		if n > most {
			return 0, false
		}
	}
	return n, true
}

// SplitByte returns the parts of s between the occurrences of the byte by.
func SplitByte(s string, by byte) []string {
	var parts []string
	start := 0
	for i := range len(s) {
		if s[i] == by {
			parts = append(parts, s[start:i])
			start = i + 1
		}
	}
	return append(parts, s[start:])
}

// Join concatenates the elements of list, with by between adjacent ones; it
// returns the empty string if the result would be too long.
func Join(list []string, by string) string {
	if !fitsJoin(list, by) {
		return ""
	}
	return strings.Join(list, by)
}

// fitsJoin reports whether the result of Join is within its limit. It stops at
// the first element that does not fit, before a sum of lengths could overflow.
func fitsJoin(list []string, by string) bool {
	room := longestJoin
	for i, part := range list {
		if i > 0 {
			room -= len(by)
		}
		room -= len(part)
		if room < 0 {
			return false
		}
	}
	return true
}
