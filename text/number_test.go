package text_test

import (
	"math"
	"math/big"
	"regexp"
	"strings"
	"testing"

	"ledger/api"
	"ledger/text"
)

// someNumbers: the edges of int64, of the powers of two and of ten, and what stands beside them.
func someNumbers() []int64 {
	l := []int64{0, math.MaxInt64, math.MinInt64, math.MinInt64 + 1, math.MaxInt64 - 1}
	for bit := range 63 {
		for off := int64(-1); off <= 1; off++ {
			l = append(l, 1<<bit+off, -(1<<bit)+off)
		}
	}
	for power := int64(1); power <= math.MaxInt64/10; power *= 10 {
		l = append(l, power*10-1, power*10, power*10+1, -power*10, -power*10-1)
	}
	return l
}

func TestFormatNumber(t *testing.T) { // P6.4
	for n, want := range map[int64]string{
		0: "0", -1: "-1", 1: "1", 9: "9", 10: "10", -10: "-10", 1048576: "1048576",
		math.MaxInt64: "9223372036854775807", math.MinInt64: "-9223372036854775808",
	} {
		if got := text.FormatNumber(n); got != want {
			t.Errorf("FormatNumber(%d): %q, want %q", n, got, want)
		}
	}
	for _, n := range someNumbers() {
		if got, want := text.FormatNumber(n), big.NewInt(n).String(); got != want {
			t.Errorf("FormatNumber(%d): %q, want %q", n, got, want)
		}
	}
}

// parse: what ParseNumber is given, and what is asked of it.
type parse struct {
	s    string
	max  int64
	n    int64
	want api.Errno
}

func (p parse) ask(t *testing.T) {
	t.Helper()
	if n, e := text.ParseNumber(p.s, p.max); n != p.n || e != p.want {
		t.Errorf("ParseNumber(%.40q, %d): %d, %d, want %d, %d", p.s, p.max, n, e, p.n, p.want)
	}
}

// oneNumber: the shape of a number's text.
var oneNumber = regexp.MustCompile(`\A(0|[1-9][0-9]*)\z`)

// defined: the answer as the document has it, of a text that is not too long.
func defined(s string, max int64) parse {
	if !oneNumber.MatchString(s) {
		return parse{s, max, 0, api.ErrNumber}
	}
	n, _ := new(big.Int).SetString(s, 10)
	if n.Cmp(big.NewInt(max)) > 0 {
		return parse{s, max, 0, api.ErrRange}
	}
	return parse{s, max, n.Int64(), api.OK}
}

func TestParseNumberExamples(t *testing.T) { // P6.5
	for _, p := range []parse{
		{"0", 0, 0, api.OK}, {"7", 6, 0, api.ErrRange}, {"7", 7, 7, api.OK}, {"0", -1, 0, api.ErrRange},
		{"07", 9, 0, api.ErrNumber}, {"", 9, 0, api.ErrNumber}, {"+7", 9, 0, api.ErrNumber}, {"-0", 9, 0, api.ErrNumber},
		{"7 ", 9, 0, api.ErrNumber}, {"00", 9, 0, api.ErrNumber}, {"1x", -1, 0, api.ErrNumber},
		{"9223372036854775807", math.MaxInt64, math.MaxInt64, api.OK},
		{"9223372036854775808", math.MaxInt64, 0, api.ErrRange},
		{"1" + strings.Repeat("0", 100000), math.MaxInt64, 0, api.ErrRange},
		{strings.Repeat("7", 1048577), math.MaxInt64, 0, api.ErrLong},
	} {
		p.ask(t)
	}
}

func TestParseNumberOfSmallTexts(t *testing.T) { // P6.5
	eachText([]string{"0", "1", "9", "-", "+", "_", " ", "x", ".", "e", "\n", "\x00", "\u0661"}, 4, func(s string) {
		for _, max := range []int64{math.MinInt64, -1, 0, 1, 10, 99, 1000, math.MaxInt64} {
			defined(s, max).ask(t)
		}
	})
}

func TestParseNumberOtherBytes(t *testing.T) { // P6.5
	for x := range 256 {
		for _, s := range []string{string([]byte{byte(x)}), string([]byte{byte(x), '3'}), string([]byte{'3', byte(x)}), string([]byte{'3', byte(x), '0'})} {
			defined(s, 1000).ask(t)
			defined(s, -1).ask(t)
		}
	}
}

func TestParseNumberTakesFormatNumber(t *testing.T) { // P6.4, P6.5
	for _, n := range someNumbers() {
		s := text.FormatNumber(n)
		if n < 0 {
			parse{s, math.MaxInt64, 0, api.ErrNumber}.ask(t)
			continue
		}
		parse{s, math.MaxInt64, n, api.OK}.ask(t)
		parse{s, n, n, api.OK}.ask(t)
		parse{s, n - 1, 0, api.ErrRange}.ask(t)
		parse{s, math.MinInt64, 0, api.ErrRange}.ask(t)
		parse{"0" + s, math.MaxInt64, 0, api.ErrNumber}.ask(t)
		defined(s+"0", n).ask(t)
	}
}

func TestParseNumberBeyondInt64(t *testing.T) { // P6.5
	most := big.NewInt(math.MaxInt64)
	for _, off := range []int64{1, 2, 10, math.MaxInt64} {
		parse{new(big.Int).Add(most, big.NewInt(off)).String(), math.MaxInt64, 0, api.ErrRange}.ask(t)
	}
	for bit := uint(63); bit < 300; bit++ { // also those whose low 64 bits are small
		for off := int64(0); off < 10; off++ {
			n := new(big.Int).Lsh(big.NewInt(1), bit)
			n.Add(n, big.NewInt(off))
			parse{n.String(), math.MaxInt64, 0, api.ErrRange}.ask(t)
			parse{n.String(), 0, 0, api.ErrRange}.ask(t)
			parse{n.String() + "x", math.MaxInt64, 0, api.ErrNumber}.ask(t)
		}
	}
}

func TestParseNumberLengths(t *testing.T) { // P6.5, P0.1
	for _, max := range []int64{math.MaxInt64, 0, -1} {
		parse{strings.Repeat("7", api.MaxBytes), max, 0, api.ErrRange}.ask(t)
		parse{strings.Repeat("0", api.MaxBytes), max, 0, api.ErrNumber}.ask(t)
		parse{"0" + strings.Repeat("7", api.MaxBytes-1), max, 0, api.ErrNumber}.ask(t)
		parse{strings.Repeat("7", api.MaxBytes-1) + "x", max, 0, api.ErrNumber}.ask(t)
		for _, s := range []string{"7", "0", "x", "\x00"} {
			parse{strings.Repeat(s, api.MaxBytes+1), max, 0, api.ErrLong}.ask(t)
			parse{strings.Repeat(s, 2*api.MaxBytes), max, 0, api.ErrLong}.ask(t)
		}
	}
}
