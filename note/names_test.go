package note_test

import (
	"slices"
	"strings"
	"testing"
	"unicode/utf8"

	"ledger/api"
	"ledger/note"
)

// blanks: as the document lists them.
func blanks() []rune {
	l := []rune{0x20, 0x85, 0xa0, 0x1680, 0x2028, 0x2029, 0x202f, 0x205f, 0x3000}
	for r := rune(0x2000); r <= 0x200a; r++ {
		l = append(l, r)
	}
	return l
}

// nameError: what CheckName is to say, by the words of the document.
func nameError(name string) api.Errno {
	if len(name) < 1 || len(name) > 100 || !utf8.ValidString(name) {
		return api.ErrName
	}
	for _, r := range name {
		if r == '+' || r < 0x20 || r == 0x7f || slices.Contains(blanks(), r) {
			return api.ErrName
		}
	}
	return api.OK
}

func nameIs(t *testing.T, name string, want api.Errno) {
	t.Helper()
	if e := note.CheckName(name); e != want {
		t.Errorf("CheckName(%.120q): %d, want %d", name, e, want)
	}
}

func TestNameExamples(t *testing.T) { // P7.1
	for _, name := range []string{"a", "é", "x:1", "-", strings.Repeat("n", 100), "\u200b", "\u0080", "\ufffd", "\U0010ffff", "—", "PRIVATE"} {
		nameIs(t, name, api.OK)
	}
	for _, name := range []string{"", "a b", "a+b", "+", "a\n", "\n", "\t", "\r", "\x00", "\x7f", "\u0085", "\u00a0", "\u3000", "\xff", "\x80", "a\xc3", "\xed\xa0\x80", "\xc0\x80", strings.Repeat("n", 101)} {
		nameIs(t, name, api.ErrName)
	}
}

func TestNameOfEachRune(t *testing.T) { // P7.1
	for r := range rune(utf8.MaxRune + 1) {
		if !utf8.ValidRune(r) {
			continue
		}
		want := nameError(string(r))
		for _, name := range []string{string(r), string(r) + "b", "a" + string(r), "a" + string(r) + "b"} {
			if e := note.CheckName(name); e != want {
				t.Fatalf("CheckName(%q): %d, want %d", name, e, want)
			}
		}
	}
}

func TestNameOfEachBytes(t *testing.T) { // P7.1
	for x := range 1 << 16 {
		for _, name := range []string{string([]byte{byte(x)}), string([]byte{byte(x >> 8), byte(x)}), string([]byte{0xe2, byte(x >> 8), byte(x)})} {
			if e, want := note.CheckName(name), nameError(name); e != want {
				t.Fatalf("CheckName(%q): %d, want %d", name, e, want)
			}
		}
	}
}

func TestNameLengths(t *testing.T) { // P7.1
	for n := range 400 {
		for _, piece := range []string{"n", "é", "—"} {
			name := strings.Repeat(piece, n)
			nameIs(t, name, nameError(name))
		}
	}
	nameIs(t, strings.Repeat("é", 50), api.OK)
	nameIs(t, strings.Repeat("é", 50)+"n", api.ErrName)
	nameIs(t, strings.Repeat("n", api.MaxBytes+1), api.ErrName)
}
