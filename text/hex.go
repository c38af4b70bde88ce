package text

import "ledger/api"

// digits: of hex, each at the number that it stands for.
var digits = [16]byte{'0', '1', '2', '3', '4', '5', '6', '7', '8', '9', 'a', 'b', 'c', 'd', 'e', 'f'}

// digitNumber: the number that a digit stands for; false, if it is none.
func digitNumber(digit byte) (byte, bool) {
	for i := range digits {
		if digits[i] == digit {
			return byte(i), true
		}
	}
	return 0, false
}

// appendDigits: s and the two digits of a byte.
func appendDigits(s []byte, x byte) []byte {
	return append(s, digits[x/16], digits[x%16])
}

// byteOfDigits: the byte of two digits; false, if one of them is none.
func byteOfDigits(high, low byte) (byte, bool) {
	h, highOK := digitNumber(high)
	l, lowOK := digitNumber(low)
	return 16*h + l, highOK && lowOK
}

// EncodeHex: two digits a byte, 0 to 9, a to f.
func EncodeHex(b []byte) string {
	s := make([]byte, 0, 2*len(b))
	for _, x := range b {
		s = appendDigits(s, x)
	}
	return string(s)
}

// DecodeHex: of just the texts that EncodeHex gives; ErrHex else.
func DecodeHex(s string) ([]byte, api.Errno) {
	if tooLong(s) {
		return nil, api.ErrLong
	}
	if len(s)%2 != 0 {
		return nil, api.ErrHex
	}
	b := make([]byte, 0, len(s)/2)
	for i := 0; i < len(s); i += 2 {
		x, ok := byteOfDigits(s[i], s[i+1])
		if !ok {
			return nil, api.ErrHex
		}
		b = append(b, x)
	}
	return b, api.OK
}
