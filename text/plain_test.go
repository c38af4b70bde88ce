package text_test

import (
	"strings"
	"testing"

	"ledger/api"
	"ledger/text"
)

func plainIs(t *testing.T, s string, want api.Errno) {
	t.Helper()
	if e := text.Plain(s); e != want {
		t.Errorf("Plain(%.40q): %d, want %d", s, e, want)
	}
}

// coding: the number in that many bytes as UTF-8 lays them out, the shortest way or not.
func coding(n, length int) string {
	if length == 1 {
		return string([]byte{byte(n)})
	}
	b := make([]byte, length)
	for i := length - 1; i > 0; i-- {
		b[i] = 0x80 | byte(n&0x3f)
		n >>= 6
	}
	b[0] = byte(int(0xf00)>>length | n)
	return string(b)
}

// shortest: how many bytes the shortest coding of a number has.
func shortest(n int) int {
	switch {
	case n < 0x80:
		return 1
	case n < 0x800:
		return 2
	case n < 0x10000:
		return 3
	}
	return 4
}

// mayStand: a number whose shortest coding is plain.
func mayStand(n int) bool {
	if n < 0x80 {
		return n == 0x0a || n >= 0x20 && n != 0x7f
	}
	return n <= 0x10ffff && (n < 0xd800 || n > 0xdfff)
}

// firstPiece: the length of the plain piece with which s begins, by the definition of valid UTF-8; 0, if there is none.
func firstPiece(s string) int {
	most := map[int]int{1: 0x80, 2: 0x800, 3: 0x10000, 4: 0x200000}
	for length := 1; length <= min(4, len(s)); length++ {
		n := int(s[0]) & (0xff >> (length + 1))
		if length == 1 {
			n = int(s[0])
		}
		for i := 1; i < length; i++ {
			n = n<<6 | int(s[i])&0x3f
		}
		if n < most[length] && shortest(n) == length && mayStand(n) && coding(n, length) == s[:length] {
			return length
		}
	}
	return 0
}

func plainByDefinition(s string) api.Errno {
	for s != "" {
		length := firstPiece(s)
		if length == 0 {
			return api.ErrPlain
		}
		s = s[length:]
	}
	return api.OK
}

func TestPlainExamples(t *testing.T) { // P6.6
	for _, s := range []string{"", "a\nb", "é", "\xc2\x80", "\xc2\x9f", "\xf4\x8f\xbf\xbf", "\n", " ~", "\ufffd", "a\ufffdb", "\ufeff", "\ud7ff", "\ue000"} {
		plainIs(t, s, api.OK)
	}
	for _, s := range []string{"\t", "\r", "\x00", "\x7f", "\x80", "\xc3", "\xc0\x80", "\xe0\x80\x80", "\xed\xa0\x80", "\xed\xbf\xbf", "\xf4\x90\x80\x80", "\xf5", "\xef", "\xef\xbf", "\xef\xbf\xef\xbf\xbd", "\ufffd\xff", "\xff\ufffd"} {
		plainIs(t, s, api.ErrPlain)
	}
}

func TestPlainOfEveryNumber(t *testing.T) { // P6.6
	for n := range 0x200000 {
		want := api.ErrPlain
		if mayStand(n) {
			want = api.OK
		}
		if e := text.Plain(coding(n, shortest(n))); e != want {
			t.Fatalf("Plain of %#x: %d, want %d", n, e, want)
		}
	}
}

func TestPlainOfLongerCodings(t *testing.T) { // P6.6
	for length := 2; length <= 4; length++ {
		for n := range 0x10000 {
			if shortest(n) >= length {
				break
			}
			if e := text.Plain(coding(n, length)); e != api.ErrPlain {
				t.Fatalf("Plain of %#x in %d bytes: %d", n, length, e)
			}
		}
	}
}

func TestPlainOfSmallTexts(t *testing.T) { // P6.6
	for x := range 256 {
		for y := range 256 {
			for _, s := range []string{string([]byte{byte(x)}), string([]byte{byte(x), byte(y)}), string([]byte{byte(x), byte(y), 0x80}), string([]byte{byte(x), byte(y), 0xbf, 0xbf}), string([]byte{'a', byte(x), byte(y), '\n'})} {
				if e, want := text.Plain(s), plainByDefinition(s); e != want {
					t.Fatalf("Plain(%q): %d, want %d", s, e, want)
				}
			}
		}
	}
	edges := []string{"\n", "\x1f", " ", "\x7f", "\x80", "\x9f", "\xa0", "\xbf", "\xc2", "\xe0", "\xed", "\xef", "\xf0", "\xf4"}
	eachText(edges, 4, func(s string) {
		if e, want := text.Plain(s), plainByDefinition(s); e != want {
			t.Errorf("Plain(%q): %d, want %d", s, e, want)
		}
	})
}

func TestPlainAtEachPlace(t *testing.T) { // P6.6
	for _, amiss := range []string{"\t", "\x00", "\x7f", "\x80", "\xc3", "\xed\xa0\x80", "\xff"} {
		for place := range 40 {
			plainIs(t, strings.Repeat("é", place)+amiss+strings.Repeat("a", 40-place), api.ErrPlain)
		}
	}
}

func TestPlainLengths(t *testing.T) { // P6.6, P0.1
	plainIs(t, strings.Repeat("a", api.MaxBytes), api.OK)
	plainIs(t, strings.Repeat("é", api.MaxBytes/2), api.OK)
	plainIs(t, strings.Repeat("a", api.MaxBytes-1)+"\t", api.ErrPlain)
	plainIs(t, strings.Repeat("a", api.MaxBytes-1)+"\xc3", api.ErrPlain)
	plainIs(t, strings.Repeat("a", api.MaxBytes+1), api.ErrLong)
	plainIs(t, strings.Repeat("é", api.MaxBytes/2+1), api.ErrLong)
	plainIs(t, strings.Repeat("\t", api.MaxBytes+1), api.ErrLong)
	plainIs(t, strings.Repeat("\xff", 2*api.MaxBytes), api.ErrLong)
}
