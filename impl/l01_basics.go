package impl

import (
	"strconv"
	"strings"
)

// Codes and limits.
const (
	OK = iota
	ErrInvalid
	ErrRange
	ErrNotFound
	ErrExists
	ErrFull
	ErrState
	ErrSyntax
	ErrFormat
	ErrClash
	ErrJam

	MaxName = 12
)

// maxDigits is how many digits a number that is read may have: all of them fit into an int64.
const maxDigits = 18

// CodeName returns the name of a code.
func CodeName(code int64) string {
	names := [...]string{
		OK:          "ok",
		ErrInvalid:  "invalid",
		ErrRange:    "range",
		ErrNotFound: "not-found",
		ErrExists:   "exists",
		ErrFull:     "full",
		ErrState:    "state",
		ErrSyntax:   "syntax",
		ErrFormat:   "format",
		ErrClash:    "clash",
		ErrJam:      "jam",
	}
	if code < 0 || code >= int64(len(names)) {
		return ""
	}
	return names[code]
}

// IsName reports whether s is a name.
func IsName(s string) bool {
	if len(s) == 0 || len(s) > MaxName {
		return false
	}
	for i, r := range s {
		if i == 0 && !isSmallLetter(r) || !isNameRune(r) {
			return false
		}
	}
	return true
}

// isSmallLetter reports whether r is a letter from a to z.
func isSmallLetter(r rune) bool { return r >= 'a' && r <= 'z' }

// isNameRune reports whether r may stand in a name behind its first letter.
func isNameRune(r rune) bool {
	return isSmallLetter(r) || r >= '0' && r <= '9' || r == '-'
}

// Decimal returns the decimal form of a number.
func Decimal(n int64) string { return strconv.FormatInt(n, 10) }

// ReadDecimal returns the number with a decimal form.
func ReadDecimal(s string) (int64, bool) {
	if len(strings.TrimPrefix(s, "-")) > maxDigits {
		return 0, false
	}
	n, err := strconv.ParseInt(s, 10, 64)
	// ParseInt also reads forms such as +1, 01 and -0, which Decimal never writes.
	if err != nil || Decimal(n) != s {
		return 0, false
	}
	return n, true
}

// SplitWords returns the parts of a text without blanks.
func SplitWords(s string) []string { return strings.FieldsFunc(s, isBlank) }

// isBlank reports whether r is the blank, byte 32: other white space is no blank.
func isBlank(r rune) bool { return r == ' ' }

func isWithin(n, low, high int64) bool { return low <= n && n <= high }

// areIncreasing reports whether numbers are strictly increasing, and all from low to high.
func areIncreasing(numbers []int64, low, high int64) bool {
	least := low // what the next number may be
	for _, n := range numbers {
		if !isWithin(n, least, high) {
			return false
		}
		least = n + 1
	}
	return true
}
