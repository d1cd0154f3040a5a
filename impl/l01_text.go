package impl

import (
	"strconv"
	"strings"
)

const maxNameBytes = 8
const maxPaddedBytes = 2000

func FormatInt(n int) string { return strconv.Itoa(n) }

func ParseInt(s string) (int, bool) {
	n, err := strconv.Atoi(s)
	// Atoi also accepts "+1", "-0" and "07", which FormatInt never writes.
	if err != nil || FormatInt(n) != s {
		return 0, false
	}
	return n, true
}

func IsDigits(s string) bool {
	for _, r := range s {
		if !isDigit(r) {
			return false
		}
	}
	return s != ""
}

func IsName(s string) bool {
	if s == "" || len(s) > maxNameBytes {
		return false
	}
	for i, r := range s {
		if !isSmallLetter(r) && (i == 0 || !isDigit(r)) {
			return false
		}
	}
	return true
}

func isDigit(r rune) bool { return r >= '0' && r <= '9' }

func isSmallLetter(r rune) bool { return r >= 'a' && r <= 'z' }

func SplitAny(s string, by string) []string {
	// Separators are bytes, not runes: a part of a longer rune splits too.
	var splits [256]bool
	for i := range len(by) {
		splits[by[i]] = true
	}
	var parts []string
	start := 0
	for i := range len(s) {
		if splits[s[i]] {
			parts = append(parts, s[start:i])
			start = i + 1
		}
	}
	return append(parts, s[start:])
}

func SplitLines(s string) []string {
	var lines []string
	start := 0
	for i, r := range s {
		if r == '\n' {
			lines = append(lines, s[start:i])
			start = i + 1
		}
	}
	if start < len(s) {
		lines = append(lines, s[start:])
	}
	return lines
}

func Join(l []string, by string) string { return joined(by, l...) }

func PadZeros(s string, n int) string {
	if len(s) >= n || n > maxPaddedBytes {
		return s
	}
	return joined("", strings.Repeat("0", n-len(s)), s)
}

func joined(by string, parts ...string) string { return strings.Join(parts, by) }
