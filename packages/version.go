package packages

import (
	"cmp"
	"strings"
)

// CompareVersions tells which of two versions is the earlier one (P3): -1, 0 or 1.
func CompareVersions(a, b string) int {
	for a != "" || b != "" {
		i, j := lead(a, isNoDigit), lead(b, isNoDigit)
		if order := compareWords(a[:i], b[:j]); order != 0 {
			return order
		}
		a, b = a[i:], b[j:]
		i, j = lead(a, isDigit), lead(b, isDigit)
		if order := compareNumbers(a[:i], b[:j]); order != 0 {
			return order
		}
		a, b = a[i:], b[j:]
	}
	return 0
}

func isNoDigit(c byte) bool { return !isDigit(c) }

// lead is how many bytes of the kind a text begins with.
func lead(text string, kind func(byte) bool) int {
	n := 0
	for n < len(text) && kind(text[n]) {
		n++
	}
	return n
}

// compareWords needs no look at lengths: no byte has the rank of a part's end.
func compareWords(a, b string) int {
	for i := range max(len(a), len(b)) {
		if order := cmp.Compare(rank(a, i), rank(b, i)); order != 0 {
			return order
		}
	}
	return 0
}

const (
	rankTilde = -1
	rankEnd   = 0
	rankOther = 256 // added to a byte's number: behind all letters
)

func rank(part string, i int) int {
	switch {
	case i >= len(part):
		return rankEnd
	case part[i] == '~':
		return rankTilde
	case isLetter(part[i]):
		return int(part[i])
	default:
		return rankOther + int(part[i])
	}
}

// compareNumbers never makes numbers of the digits: they may be longer than any machine's.
func compareNumbers(a, b string) int {
	a, b = strings.TrimLeft(a, "0"), strings.TrimLeft(b, "0")
	if order := cmp.Compare(len(a), len(b)); order != 0 {
		return order
	}
	return strings.Compare(a, b)
}
