package text_test

import (
	"bytes"
	"slices"
	"strings"
	"sync"
	"testing"

	"ledger/api"
	"ledger/text"
)

// writings: the calls that are given bytes.
func writings() map[string]func([]byte) string {
	return map[string]func([]byte) string{"EncodeBase64": text.EncodeBase64, "EncodeHex": text.EncodeHex, "Quote": text.Quote}
}

// readings: the calls that answer bytes.
func readings() []reading { return []reading{ofBase64, ofHex, ofQuote} }

func TestBytesAreNotChangedOrKept(t *testing.T) { // P6.11, P0.2
	for name, write := range writings() {
		for n := range 12 {
			room := ascending(40)
			given := room[10 : 10+n] // with room behind it, which an append would fill
			first := write(given)
			if !bytes.Equal(room, ascending(40)) {
				t.Fatalf("%s of %d bytes: they or the room behind them are changed", name, n)
			}
			kept := strings.Clone(first)
			clear(room)
			if first != kept {
				t.Fatalf("%s of %d bytes: the answer goes on sharing their memory", name, n)
			}
			if again := write(ascending(40)[10 : 10+n]); again != kept {
				t.Errorf("%s of the same %d bytes: %q, earlier %q", name, n, again, kept)
			}
		}
	}
}

func TestBytesOfAnswersAreNew(t *testing.T) { // P6.11, P0.2
	for _, r := range readings() {
		for _, want := range [][]byte{nil, {0}, []byte("ab"), ascending(3), ascending(100)} {
			s := r.encode(want)
			first, _ := r.decode(s)
			second, _ := r.decode(s)
			all := first[:cap(first)]
			for i := range all {
				all[i] ^= 0xff
			}
			if !bytes.Equal(second, want) {
				t.Errorf("%s of %q: two answers share memory", r.name, s)
			}
			if s != r.encode(want) {
				t.Errorf("%s: the text %q shares memory with the answer", r.name, s)
			}
			r.takes(t, s, want)
		}
	}
}

func TestLinesOfAnswersAreNew(t *testing.T) { // P6.11, P0.2
	const s = "a\n\nbc\n"
	first, _ := text.Lines(s)
	second, _ := text.Lines(s)
	all := first[:cap(first)]
	for i := range all {
		all[i] = "else"
	}
	if !slices.Equal(second, []string{"a", "", "bc"}) {
		t.Errorf("two answers of Lines share memory: %q", second)
	}
	linesAre(t, s, "a", "", "bc")
}

func TestNilIsEmpty(t *testing.T) { // P0.1, P6.1, P6.3, P6.10
	for name, write := range writings() {
		if a, b, c := write(nil), write([]byte{}), write(ascending(9)[4:4]); a != b || a != c {
			t.Errorf("%s of nil, of an empty list and of one with room: %q, %q, %q", name, a, b, c)
		}
	}
	ofQuote.takes(t, `""`, nil)
	ofBase64.takes(t, "", nil)
	ofHex.takes(t, "", nil)
	linesAre(t, "")
}

// answers: what every call says of a text.
func answers(s string) string {
	var l []string
	for _, r := range readings() {
		b, e := r.decode(s)
		l = append(l, string(b), text.FormatNumber(int64(e)), r.encode([]byte(s)))
	}
	n, e := text.ParseNumber(s, 1<<40)
	l = append(l, text.FormatNumber(n), text.FormatNumber(int64(e)), text.FormatNumber(int64(text.Plain(s))))
	lines, e := text.Lines(s)
	l = append(append(l, text.FormatNumber(int64(e))), lines...)
	for i, line := range text.Each(s) {
		l = append(l, text.FormatNumber(int64(i)), line)
	}
	before, after, ok := text.Cut(s)
	l = append(l, before, after)
	if ok {
		l = append(l, "cut")
	}
	return strings.Join(l, "|")
}

// variousTexts: for each call some that it takes and some that it refuses.
func variousTexts() []string {
	return []string{"", "0", "12345", "00", "Zg==", "Zh==", "abcd", "ABCD", "a\n\nb\n", "\n\n", "a\tb", "\xff", "é", `""`, `"\x0a"`, `"\x41"`, strings.Repeat("7", 4000), strings.Repeat("\n", 500)}
}

func TestSameCallsSameAnswers(t *testing.T) { // P6.11, P0.2
	l := variousTexts()
	var want []string
	for _, s := range l {
		want = append(want, answers(s))
	}
	shared := text.Each("a\nb\nc\n")
	var workers sync.WaitGroup
	for range 4 {
		workers.Go(func() {
			for i := len(l) - 1; i >= 0; i-- { // in another order, and beside one another
				if got := answers(l[i]); got != want[i] {
					t.Errorf("of %.40q: %.80q, earlier %.80q", l[i], got, want[i])
				}
			}
			for range 100 { // one iterator, gone through by several at a time
				all := ""
				for _, line := range shared {
					all += line
				}
				if all != "abc" {
					t.Errorf("beside one another: %q", all)
				}
			}
		})
	}
	workers.Wait()
}

func TestAllArgumentsAreAnswered(t *testing.T) { // P0.1
	known := map[string][]api.Errno{
		"DecodeBase64": {api.OK, api.ErrLong, api.ErrBase64},
		"DecodeHex":    {api.OK, api.ErrLong, api.ErrHex},
		"Unquote":      {api.OK, api.ErrLong, api.ErrQuote},
	}
	eachText([]string{"\x00", "\xff", "\n", `"`, `\x`, "=", "a", "0", "é"}, 4, func(s string) {
		answers(s)
		for _, r := range readings() {
			b, e := r.decode(s)
			if !slices.Contains(known[r.name], e) || e != api.OK && len(b) != 0 {
				t.Errorf("%s(%q): %d bytes, %d", r.name, s, len(b), e)
			}
		}
	})
}
