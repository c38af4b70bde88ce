package text_test

import (
	"encoding/hex"
	"strings"
	"testing"

	"ledger/api"
	"ledger/text"
)

const hexDigits = "0123456789abcdef"

var ofHex = reading{"DecodeHex", text.DecodeHex, text.EncodeHex}

func TestHexExamples(t *testing.T) { // P6.3
	ofHex.turns(t, []byte{0, 0x0f, 0xa5}, "000fa5")
	ofHex.turns(t, nil, "")
	for _, s := range []string{"000FA5", "0", "0g", " 0", "0x00", "00\n", "00 ", "-1", "+1", "1_0"} {
		ofHex.refuses(t, s, api.ErrHex)
	}
}

func TestHexEachByte(t *testing.T) { // P6.3
	for x := range 256 {
		s := hexDigits[x/16:x/16+1] + hexDigits[x%16:x%16+1]
		ofHex.turns(t, []byte{byte(x)}, s)
		ofHex.turns(t, []byte{byte(x), 0x1b, byte(x)}, s+"1b"+s)
	}
	ofHex.turns(t, ascending(1000), hex.EncodeToString(ascending(1000)))
}

func TestHexOtherBytes(t *testing.T) { // P6.3
	for x := range 256 {
		if strings.IndexByte(hexDigits, byte(x)) >= 0 {
			continue
		}
		for place := range 6 {
			s := []byte("012def")
			s[place] = byte(x)
			ofHex.refuses(t, string(s), api.ErrHex)
		}
	}
}

func TestHexLengths(t *testing.T) { // P6.3, P0.1
	for n := range 20 {
		s := strings.Repeat("f", n)
		if n%2 == 0 {
			ofHex.takes(t, s, []byte(strings.Repeat("\xff", n/2)))
		} else {
			ofHex.refuses(t, s, api.ErrHex)
		}
	}
	ofHex.takes(t, strings.Repeat("0", api.MaxBytes), make([]byte, api.MaxBytes/2))
	ofHex.refuses(t, strings.Repeat("0", api.MaxBytes-1), api.ErrHex)
	ofHex.refuses(t, strings.Repeat("0", api.MaxBytes-1)+"G", api.ErrHex)
	for _, n := range []int{1, 2, api.MaxBytes} {
		ofHex.refuses(t, strings.Repeat("0", api.MaxBytes+n), api.ErrLong)
		ofHex.refuses(t, strings.Repeat("G", api.MaxBytes+n), api.ErrLong)
	}
}

func TestEncodeHexWithoutBound(t *testing.T) { // P6.3
	for _, n := range []int{api.MaxBytes/2 + 1, api.MaxBytes, api.MaxBytes + 1} {
		s := text.EncodeHex(ascending(n))
		if s != hex.EncodeToString(ascending(n)) {
			t.Errorf("EncodeHex of %d bytes: %d digits", n, len(s))
		}
		ofHex.refuses(t, s, api.ErrLong)
	}
}
