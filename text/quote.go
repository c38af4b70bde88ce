package text

import (
	"strings"

	"ledger/api"
)

const (
	mark    = '"'
	escape  = `\x`
	escaped = len(escape) + 2 // bytes of the form of one that can't stand for itself
)

// itself: does the byte stand for itself between quotation marks?
func itself(x byte) bool {
	return x >= 0x20 && x <= 0x7e && x != mark && x != '\\'
}

// Quote: the bytes between double quotes; a byte from 0x20 to 0x7e but the quote and the backslash stands for itself; each other one is \x and two hex digits as in EncodeHex.
func Quote(b []byte) string {
	s := make([]byte, 0, len(b)+2)
	s = append(s, mark)
	for _, x := range b {
		if itself(x) {
			s = append(s, x)
		} else {
			s = appendDigits(append(s, escape...), x)
		}
	}
	return string(append(s, mark))
}

// Unquote: of just the texts that Quote gives; ErrQuote else.
func Unquote(s string) ([]byte, api.Errno) {
	if tooLong(s) {
		return nil, api.ErrLong
	}
	if len(s) < 2 || s[0] != mark || s[len(s)-1] != mark {
		return nil, api.ErrQuote
	}
	rest := s[1 : len(s)-1]
	b := make([]byte, 0, len(rest))
	for rest != "" {
		x, length := firstByte(rest)
		if length == 0 {
			return nil, api.ErrQuote
		}
		b = append(b, x)
		rest = rest[length:]
	}
	return b, api.OK
}

// firstByte: the byte with whose form s, which isn't empty, begins, and that form's length; 0 and 0, if it begins with none.
func firstByte(s string) (x byte, length int) {
	if itself(s[0]) {
		return s[0], 1
	}
	if len(s) < escaped || !strings.HasPrefix(s, escape) {
		return 0, 0
	}
	x, ok := byteOfDigits(s[2], s[3])
	if !ok || itself(x) {
		return 0, 0
	}
	return x, escaped
}
