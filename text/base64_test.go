package text_test

import (
	"bytes"
	"encoding/base64"
	"strings"
	"testing"

	"ledger/api"
	"ledger/text"
)

const base64Letters = "ABCDEFGHIJKLMNOPQRSTUVWXYZabcdefghijklmnopqrstuvwxyz0123456789+/"

// ascending: 00 01 02 ..
func ascending(n int) []byte {
	b := make([]byte, n)
	for i := range b {
		b[i] = byte(i)
	}
	return b
}

// eachText: every text of at most that many of the pieces.
func eachText(pieces []string, most int, do func(s string)) {
	layer := []string{""}
	for range most + 1 {
		var next []string
		for _, s := range layer {
			do(s)
			for _, piece := range pieces {
				next = append(next, s+piece)
			}
		}
		layer = next
	}
}

// reading: one of the calls that take a text and answer bytes.
type reading struct {
	name   string
	decode func(string) ([]byte, api.Errno)
	encode func([]byte) string
}

func (r reading) takes(t *testing.T, s string, want []byte) {
	t.Helper()
	if b, e := r.decode(s); e != api.OK || !bytes.Equal(b, want) {
		t.Errorf("%s(%.40q): %.40x, %d, want %.40x", r.name, s, b, e, want)
	}
}

func (r reading) refuses(t *testing.T, s string, want api.Errno) {
	t.Helper()
	if b, e := r.decode(s); e != want || len(b) != 0 {
		t.Errorf("%s(%.40q): %d bytes, %d, want %d", r.name, s, len(b), e, want)
	}
}

// turns: the bytes and their text, in both directions.
func (r reading) turns(t *testing.T, b []byte, s string) {
	t.Helper()
	if got := r.encode(b); got != s {
		t.Errorf("of %.40x: %.40q, want %.40q", b, got, s)
	}
	r.takes(t, s, b)
}

var ofBase64 = reading{"DecodeBase64", text.DecodeBase64, text.EncodeBase64}

func TestBase64Examples(t *testing.T) { // P6.1, P6.2
	for b, s := range map[string]string{
		"": "", "f": "Zg==", "fo": "Zm8=", "foo": "Zm9v", "foob": "Zm9vYg==", "fooba": "Zm9vYmE=", "foobar": "Zm9vYmFy",
		"\xff\xff\xff": "////", "\xfb\xef\xbe": "++++", "\x00": "AA==", "\x00\x00": "AAA=", "\x00\x00\x00": "AAAA", "\xff": "/w==", "\xff\xff": "//8=",
	} {
		ofBase64.turns(t, []byte(b), s)
	}
	for _, s := range []string{"Zh==", "Zg", "Zg=", "Z===", "====", "Zg==Zg==", "Zm9v\n", "Zm9-", "Zm=v"} {
		ofBase64.refuses(t, s, api.ErrBase64)
	}
}

func TestBase64IsTheLibrarys(t *testing.T) { // P6.1, P6.2
	for x := range 1 << 16 {
		b := []byte{byte(x >> 8), byte(x)}
		if got, want := text.EncodeBase64(b), base64.StdEncoding.EncodeToString(b); got != want {
			t.Fatalf("EncodeBase64(%x): %q, want %q", b, got, want)
		}
	}
	for x := range 256 {
		for n := range 3 { // the byte alone, and behind whole threes
			b := append(ascending(3*n), byte(x))
			ofBase64.turns(t, b, base64.StdEncoding.EncodeToString(b))
		}
	}
	for _, n := range []int{2, 3, 4, 5, 30, 31, 32, 33, 63, 64, 65, 1000, 1001, 1002} {
		ofBase64.turns(t, ascending(n), base64.StdEncoding.EncodeToString(ascending(n)))
	}
}

func TestBase64EachLetterAtEachPlace(t *testing.T) { // P6.1, P6.2
	for place := range 4 {
		for number := range 64 {
			bits := number << (18 - 6*place)
			s := []byte("AAAA")
			s[place] = base64Letters[number]
			ofBase64.turns(t, []byte{byte(bits >> 16), byte(bits >> 8), byte(bits)}, string(s))
		}
	}
}

func TestBase64OtherBytes(t *testing.T) { // P6.2
	for x := range 256 {
		if strings.IndexByte(base64Letters, byte(x)) >= 0 {
			continue
		}
		for place := range 12 {
			s := []byte("AAAABBBBCCCC")
			s[place] = byte(x) // padding at the end too: the C ahead of it has bits that aren't used
			ofBase64.refuses(t, string(s), api.ErrBase64)
		}
	}
	ofBase64.takes(t, "AAAABBBBCCA=", []byte{0, 0, 0, 4, 16, 65, 8, 32})
}

func TestBase64UnusedBits(t *testing.T) { // P6.2
	for number := range 64 {
		letter := string(base64Letters[number])
		if number%16 == 0 {
			ofBase64.takes(t, "A"+letter+"==", []byte{byte(number >> 4)})
		} else {
			ofBase64.refuses(t, "A"+letter+"==", api.ErrBase64)
		}
		if number%4 == 0 {
			ofBase64.takes(t, "AA"+letter+"=", []byte{0, byte(number >> 2)})
		} else {
			ofBase64.refuses(t, "AA"+letter+"=", api.ErrBase64)
		}
	}
}

// oneForm: does the text read as bytes whose text it is, as the library has it?
func oneForm(s string) ([]byte, bool) {
	b, err := base64.StdEncoding.DecodeString(s)
	return b, err == nil && base64.StdEncoding.EncodeToString(b) == s
}

func TestBase64OneTextOnly(t *testing.T) { // P6.2
	taken := 0
	eachText([]string{"A", "g", "/", "w", "=", "\n"}, 6, func(s string) {
		for _, s := range []string{s, "Zm9v" + s, s + "Zg=="} {
			if b, ok := oneForm(s); ok {
				taken++
				ofBase64.takes(t, s, b)
			} else {
				ofBase64.refuses(t, s, api.ErrBase64)
			}
		}
	})
	if taken < 100 {
		t.Errorf("%d texts were to be taken: not all was tried", taken)
	}
}

func TestBase64Lengths(t *testing.T) { // P6.2, P0.1
	for n := range 40 {
		s := strings.Repeat("A", n)
		if n%4 == 0 {
			ofBase64.takes(t, s, make([]byte, n/4*3))
		} else {
			ofBase64.refuses(t, s, api.ErrBase64)
		}
	}
	ofBase64.takes(t, strings.Repeat("A", api.MaxBytes), make([]byte, api.MaxBytes/4*3))
	ofBase64.refuses(t, strings.Repeat("A", api.MaxBytes-1), api.ErrBase64)
	ofBase64.refuses(t, strings.Repeat("A", api.MaxBytes-1)+"!", api.ErrBase64)
	for _, n := range []int{1, 2, 4, api.MaxBytes} {
		ofBase64.refuses(t, strings.Repeat("A", api.MaxBytes+n), api.ErrLong)
		ofBase64.refuses(t, strings.Repeat("!", api.MaxBytes+n), api.ErrLong)
	}
}

func TestEncodeBase64WithoutBound(t *testing.T) { // P6.1, P6.2
	for _, n := range []int{api.MaxBytes/4*3 + 1, api.MaxBytes, api.MaxBytes + 1, 3 * api.MaxBytes} {
		s := text.EncodeBase64(ascending(n))
		if s != base64.StdEncoding.EncodeToString(ascending(n)) {
			t.Errorf("EncodeBase64 of %d bytes: %d letters", n, len(s))
		}
		ofBase64.refuses(t, s, api.ErrLong)
	}
}
