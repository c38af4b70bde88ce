package modver

import "ledger/api"

const (
	escapeMark  = '!'
	fromCapital = 'a' - 'A' // how far a small letter is above its capital one
)

// EscapePath: each capital letter becomes ! and the small one. ErrModPath.
func EscapePath(path string) (string, api.Errno) {
	if e := CheckPath(path); e != api.OK {
		return "", e
	}
	return escape(path), api.OK
}

// UnescapePath: of just what EscapePath gives; ErrEscape (the escapes), then ErrModPath.
func UnescapePath(s string) (string, api.Errno) {
	path, ok := unescape(s)
	if !ok {
		return "", api.ErrEscape
	}
	if e := CheckPath(path); e != api.OK {
		return "", e
	}
	return path, api.OK
}

// EscapeVersion: likewise. ErrVersion.
func EscapeVersion(version string) (string, api.Errno) {
	if e := CheckVersion(version); e != api.OK {
		return "", e
	}
	return escape(version), api.OK
}

// UnescapeVersion: ErrEscape, ErrVersion.
func UnescapeVersion(s string) (string, api.Errno) {
	version, ok := unescape(s)
	if !ok {
		return "", api.ErrEscape
	}
	if e := CheckVersion(version); e != api.OK {
		return "", e
	}
	return version, api.OK
}

func escape(s string) string {
	escaped := make([]byte, 0, 2*len(s))
	for i := range len(s) {
		if kindOf(rune(s[i])) == capitalLetter {
			escaped = append(escaped, escapeMark, s[i]+fromCapital)
		} else {
			escaped = append(escaped, s[i])
		}
	}
	return string(escaped)
}

// unescape: false, if s has a capital letter, or a mark without a small letter behind it. Bytes that escape never gives are left as they are, for what comes of them to be refused.
func unescape(s string) (string, bool) {
	plain := make([]byte, 0, len(s))
	marked := false // is the letter that comes now a capital one?
	for i := range len(s) {
		kind := kindOf(rune(s[i]))
		switch {
		case kind == capitalLetter, marked && kind != smallLetter:
			return "", false
		case s[i] == escapeMark:
			marked = true
		case marked:
			plain = append(plain, s[i]-fromCapital)
			marked = false
		default:
			plain = append(plain, s[i])
		}
	}
	return string(plain), !marked
}
