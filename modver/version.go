package modver

import (
	"cmp"
	"slices"
	"strings"

	"ledger/api"
)

const incompatible = "+incompatible"

// parts: of a version: its three numbers, the words of its pre-release, and whether +incompatible stands there. The numbers of the zero value have no digits, so that it comes ahead of every version.
type parts struct {
	numbers      [3]string
	words        []string
	incompatible bool
}

// CheckVersion: ErrVersion, if it is no canonical version.
func CheckVersion(version string) api.Errno {
	_, e := partsOf(version)
	return e
}

// partsOf: ErrVersion, and the zero value, if it is no version.
func partsOf(version string) (parts, api.Errno) {
	rest, ok := strings.CutPrefix(version, "v")
	if !ok || len(version) > api.MaxVersion {
		return parts{}, api.ErrVersion
	}
	var v parts
	rest, v.incompatible = strings.CutSuffix(rest, incompatible)
	core, pre, more := strings.Cut(rest, "-") // no number has a -, so the first one begins the pre-release
	if more {
		v.words = strings.Split(pre, ".")
	}
	if !v.takeNumbers(core) || !v.mayBe() {
		return parts{}, api.ErrVersion
	}
	return v, api.OK
}

// takeNumbers: false, if they are not three.
func (v *parts) takeNumbers(core string) bool {
	numbers := strings.Split(core, ".")
	if len(numbers) != len(v.numbers) {
		return false
	}
	v.numbers = [3]string(numbers)
	return true
}

func (v parts) mayBe() bool {
	for _, number := range v.numbers {
		if !isNumber(number) {
			return false
		}
	}
	for _, word := range v.words {
		if !isWord(word) {
			return false
		}
	}
	return !(v.incompatible && isLow(v.numbers[0]))
}

// isWord: of a pre-release.
func isWord(s string) bool {
	if allOf(s, digit) {
		return isNumber(s)
	}
	return allOf(s, inWord)
}

// fits: a path with this major, "" if it has none.
func (v parts) fits(major string) bool {
	if major != "" {
		return v.numbers[0] == major && !v.incompatible
	}
	return v.incompatible || isLow(v.numbers[0])
}

// Compare: -1, 0 or 1: the order of versions; what is no version stands ahead of all that are; two that are none are the same.
func Compare(a, b string) int {
	v, _ := partsOf(a)
	w, _ := partsOf(b)
	return compareParts(v, w)
}

func compareParts(v, w parts) int {
	for i := range v.numbers {
		if c := compareNumbers(v.numbers[i], w.numbers[i]); c != 0 {
			return c
		}
	}
	if len(v.words) == 0 || len(w.words) == 0 {
		return order(len(w.words), len(v.words)) // the other way round: a pre-release comes ahead of none
	}
	return slices.CompareFunc(v.words, w.words, compareWords)
}

// compareNumbers: in their one form, in which the longer one is the greater one.
func compareNumbers(a, b string) int {
	return cmp.Or(order(len(a), len(b)), order(a, b))
}

func compareWords(a, b string) int {
	number, other := isNumber(a), isNumber(b)
	switch {
	case number && other:
		return compareNumbers(a, b)
	case number:
		return -1
	case other:
		return 1
	}
	return order(a, b)
}

// order: -1, 0 or 1, as a is below b, the same or above it.
func order[T cmp.Ordered](a, b T) int {
	switch {
	case a < b:
		return -1
	case a > b:
		return 1
	}
	return 0
}
