// Package text has what all texts of lines and words have: words with one space between them, and decimal integers.
package text

import (
	"slices"
	"strconv"
	"strings"
)

// Words returns the words of a line, each of which has at least one byte, with one space between them.
func Words(line string) ([]string, bool) {
	out := strings.Split(line, " ")
	if slices.Contains(out, "") {
		return nil, false
	}
	return out, true
}

// Integer returns the number of a decimal integer with at most so many digits, without leading zeros and -0.
func Integer(s string, most int) (int64, bool) {
	digits, negative := strings.CutPrefix(s, "-")
	isZero := strings.HasPrefix(digits, "0")
	switch {
	case len(digits) > most || !AreDigits(digits):
		return 0, false
	case isZero && (negative || len(digits) > 1):
		return 0, false
	}
	n, err := strconv.ParseInt(s, 10, 64)
	if err != nil { // too large for an int64
		return 0, false
	}
	return n, true
}

// AreDigits reports whether a string is decimal digits, at least one.
func AreDigits(s string) bool {
	for _, r := range s {
		if r < '0' || r > '9' {
			return false
		}
	}
	return s != ""
}
