package text_test

import (
	"encoding/hex"
	"regexp"
	"strings"
	"testing"

	"ledger/api"
	"ledger/text"
)

var ofQuote = reading{"Unquote", text.Unquote, text.Quote}

func TestQuoteExamples(t *testing.T) { // P6.10
	for b, s := range map[string]string{
		"a\\\"\n\xe9": `"a\x5c\x22\x0a\xe9"`, "": `""`, " ~": `" ~"`, "\x1f\x7f": `"\x1f\x7f"`, "x41": `"x41"`, "'`": "\"'`\"", "é": `"\xc3\xa9"`, "\\x41": `"\x5cx41"`,
	} {
		ofQuote.turns(t, []byte(b), s)
	}
	for _, s := range []string{
		``, `"`, `a`, `"a`, `a"`, `""a`, `a""`, `"""`, `"a"b"`, `'a'`, "`a`", ` ""`, `"" `, "\"\"\n",
		`"\x41"`, `"\xE9"`, `"\xeF"`, `"\n"`, `"\x5"`, `"\x"`, `"\"`, `"\\"`, `"\""`, `"\X5c"`, `"\x5c`, `"\x2"`, `"\x2"2"`, `"\u000a"`, `"\012"`, "\"\n\"", "\"\x7f\"", `"é"`, "\"\x00\"", `"\x 0"`, `"\x0g"`,
	} {
		ofQuote.refuses(t, s, api.ErrQuote)
	}
}

// quoted: a byte's form between the marks.
func quoted(x byte) string {
	if x >= 0x20 && x <= 0x7e && x != '"' && x != '\\' {
		return string([]byte{x})
	}
	return `\x` + hex.EncodeToString([]byte{x})
}

func TestQuoteEachByte(t *testing.T) { // P6.10
	for x := range 256 {
		b, s := []byte{byte(x)}, quoted(byte(x))
		ofQuote.turns(t, b, `"`+s+`"`)
		ofQuote.turns(t, []byte{'a', b[0], '"', b[0]}, `"a`+s+`\x22`+s+`"`)
	}
	whole := `"`
	for _, x := range ascending(256) {
		whole += quoted(x)
	}
	ofQuote.turns(t, ascending(256), whole+`"`)
}

func TestUnquoteOtherFormsOfAByte(t *testing.T) { // P6.10
	for x := range 256 {
		digits := hex.EncodeToString([]byte{byte(x)})
		for _, s := range []string{string([]byte{byte(x)}), `\x` + digits, `\x` + strings.ToUpper(digits), `\X` + digits, `\` + digits, `x` + digits + `\`, `\x` + digits[:1], `\` + string([]byte{byte(x)})} {
			if s == quoted(byte(x)) {
				continue
			}
			ofQuote.refuses(t, `"`+s+`"`, api.ErrQuote)
			ofQuote.refuses(t, `"a`+s+`"`, api.ErrQuote)
			ofQuote.refuses(t, `"`+s+`\x00"`, api.ErrQuote)
		}
	}
}

// quotedText: just the texts that Quote gives, by their shape.
var quotedText = regexp.MustCompile(`(?s)\A"([ !#-\[\]-~]|\\x([01][0-9a-f]|22|5c|7f|[89a-f][0-9a-f]))*"\z`)

func TestUnquoteOfSmallTexts(t *testing.T) { // P6.10
	taken := 0
	check := func(s string) {
		b, e := text.Unquote(s)
		if !quotedText.MatchString(s) {
			ofQuote.refuses(t, s, api.ErrQuote)
			return
		}
		taken++
		if e != api.OK || text.Quote(b) != s {
			t.Errorf("Unquote(%q): %q, %d", s, b, e)
		}
	}
	eachText([]string{`"`, `\`, "x", "5", "c", "C"}, 6, func(s string) {
		check(s)
		check(`"` + s + `"`)
	})
	eachText([]string{`"`, `\x`, "2", "e", "F", "\n"}, 5, func(s string) { check(`"` + s + `"`) })
	if taken < 1000 {
		t.Errorf("%d texts were to be taken: not all was tried", taken)
	}
}

func TestUnquoteLengths(t *testing.T) { // P6.10, P0.1
	inner := strings.Repeat("a", api.MaxBytes-2)
	ofQuote.takes(t, `"`+inner+`"`, []byte(inner))
	ofQuote.takes(t, `"`+strings.Repeat(`\x00`, api.MaxBytes/4-1)+`"`, make([]byte, api.MaxBytes/4-1))
	ofQuote.refuses(t, `"`+inner+"a", api.ErrQuote)
	ofQuote.refuses(t, strings.Repeat(`"`, api.MaxBytes), api.ErrQuote)
	ofQuote.refuses(t, `"`+inner+`a"`, api.ErrLong)
	for _, s := range []string{"a", `"`, `\`} {
		ofQuote.refuses(t, strings.Repeat(s, api.MaxBytes+1), api.ErrLong)
		ofQuote.refuses(t, strings.Repeat(s, 2*api.MaxBytes), api.ErrLong)
	}
}

func TestQuoteWithoutBound(t *testing.T) { // P6.10
	for _, n := range []int{api.MaxBytes/4 + 1, api.MaxBytes - 1, api.MaxBytes, 2 * api.MaxBytes} {
		for _, x := range []byte{0, 'a'} {
			b := []byte(strings.Repeat(string([]byte{x}), n))
			s := text.Quote(b)
			if s != `"`+strings.Repeat(quoted(x), n)+`"` {
				t.Errorf("Quote of %d bytes %02x: %d bytes", n, x, len(s))
			}
			if len(s) > api.MaxBytes {
				ofQuote.refuses(t, s, api.ErrLong)
			}
		}
	}
}
