package web

import "strings"

const (
	blanks     = " \t" // that are trimmed
	tokenMarks = "!#$%&'*+-.^_`|~"
	plainMarks = "-._~!$&'()*+,;=:@/"
	notInHost  = `/?#@\`
)

func trim(s string) string { return strings.Trim(s, blanks) }

func isDigit(c byte) bool { return c >= '0' && c <= '9' }

func isLetterOrDigit(c byte) bool {
	return isDigit(c) || lower(c) >= 'a' && lower(c) <= 'z'
}

func isControl(c byte) bool { return c < 0x20 || c == 0x7f }

func isVisible(c byte) bool { return c > 0x20 && c < 0x7f }

// lower: a capital letter as the small one, every other byte as it is; of bytes alone, as a name or a word of HTTP is never a letter of another alphabet.
func lower(c byte) byte {
	if c >= 'A' && c <= 'Z' {
		return c - 'A' + 'a'
	}
	return c
}

// sameWord: without case.
func sameWord(a, b string) bool {
	if len(a) != len(b) {
		return false
	}
	for i := range len(a) {
		if lower(a[i]) != lower(b[i]) {
			return false
		}
	}
	return true
}

func isToken(s string) bool {
	for i := range len(s) {
		if !isLetterOrDigit(s[i]) && strings.IndexByte(tokenMarks, s[i]) < 0 {
			return false
		}
	}
	return s != ""
}

// mayBeValue: of a field; a reason and what stands behind a chunk's size are of the same bytes.
func mayBeValue(s string) bool {
	for i := range len(s) {
		if isControl(s[i]) && s[i] != '\t' {
			return false
		}
	}
	return true
}

// isTarget: of a first line, which Path may yet refuse.
func isTarget(s string) bool {
	for i := range len(s) {
		if !isVisible(s[i]) {
			return false
		}
	}
	return s != ""
}

func mayBeHost(s string) bool {
	return s == "" || isTarget(s) && !strings.ContainsAny(s, notInHost)
}

// isPlain: may the byte stand for itself in a path?
func isPlain(c byte) bool {
	return isLetterOrDigit(c) || strings.IndexByte(plainMarks, c) >= 0
}

// hexDigit: the number of a hex digit of either case; false, if it is none.
func hexDigit(c byte) (byte, bool) {
	small := lower(c)
	switch {
	case isDigit(c):
		return c - '0', true
	case small >= 'a' && small <= 'f':
		return small - 'a' + 10, true
	}
	return 0, false
}
