package world

import (
	"strings"

	"ledger/api"
	"ledger/text"
)

// word: one of a line, as it stands, and the bytes that it stands for where it is a TEXT. (As it stands a quoted one has its quotes, so that it is no argument of another kind.)
type word struct{ raw, value string }

// cutWords: the words of a line, with blanks between them. ErrScript, if one is neither bare nor quoted.
func cutWords(s string) ([]word, api.Errno) {
	var words []word
	for s = skipBlanks(s); s != ""; s = skipBlanks(s) {
		w, e := firstWord(s)
		if e != api.OK {
			return nil, e
		}
		words = append(words, w)
		s = s[len(w.raw):]
	}
	return words, api.OK
}

func skipBlanks(s string) string { return strings.TrimLeft(s, " ") }

func firstWord(s string) (word, api.Errno) {
	if s[0] == '"' {
		return quotedWord(s)
	}
	raw, _, _ := strings.Cut(s, " ")
	if !isBare(raw) {
		return word{}, api.ErrScript
	}
	return word{raw: raw, value: raw}, api.OK
}

// quotedWord: up to the next quote: within a quoted word none stands for itself.
func quotedWord(s string) (word, api.Errno) {
	inner, rest, closed := strings.Cut(s[1:], `"`)
	if !closed || rest != "" && rest[0] != ' ' {
		return word{}, api.ErrScript
	}
	raw := s[:len(inner)+2]
	value, e := text.Unquote(raw)
	if e != api.OK {
		return word{}, api.ErrScript
	}
	return word{raw: raw, value: string(value)}, api.OK
}

// isBare: may these bytes stand as a word without quotes?
func isBare(s string) bool {
	for _, c := range []byte(s) {
		if c < 0x21 || c > 0x7e || c == '"' {
			return false
		}
	}
	return s != ""
}
