package web

import "strings"

const (
	escapeMark = '%'
	queryMark  = "?"
	hexDigits  = "0123456789ABCDEF" // with which a path is escaped
)

func splitTarget(target string) (path, query string, err error) {
	escaped, query, _ := strings.Cut(target, queryMark)
	path, ok := unescape(escaped)
	if !ok || !strings.HasPrefix(escaped, "/") || !mayBeQuery(query) {
		return "", "", errTarget
	}
	return path, query, nil
}

// unescape: false, if a byte may not stand in a path, or a triple is none or stands for a byte that would then be taken for something else.
func unescape(s string) (string, bool) {
	path := make([]byte, 0, len(s))
	for s != "" {
		c, size := s[0], 1
		if c == escapeMark {
			escaped, ok := readTriple(s)
			if !ok {
				return "", false
			}
			c, size = escaped, 3
		} else if !isPlain(c) {
			return "", false
		}
		path, s = append(path, c), s[size:]
	}
	return string(path), true
}

// readTriple: the byte for which the triple stands with which s begins.
func readTriple(s string) (byte, bool) {
	if len(s) < 3 {
		return 0, false
	}
	high, highOk := hexDigit(s[1])
	low, lowOk := hexDigit(s[2])
	c := high<<4 | low
	return c, highOk && lowOk && !isControl(c) && c != '/'
}

func mayBeQuery(s string) bool {
	for i := range len(s) {
		if !isPlain(s[i]) && s[i] != escapeMark && s[i] != queryMark[0] {
			return false
		}
	}
	return true
}

func escape(path string) (string, error) {
	if !strings.HasPrefix(path, "/") {
		return "", errTarget
	}
	target := make([]byte, 0, len(path))
	for i := range len(path) {
		c := path[i]
		switch {
		case isControl(c):
			return "", errTarget
		case isPlain(c):
			target = append(target, c)
		default:
			target = append(target, escapeMark, hexDigits[c>>4], hexDigits[c&15])
		}
	}
	return string(target), nil
}
