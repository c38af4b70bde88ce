package text

import (
	"strings"

	"ledger/api"
)

// letters: of base64, each at the number of six bits that it stands for.
var letters = [64]byte{
	'A', 'B', 'C', 'D', 'E', 'F', 'G', 'H', 'I', 'J', 'K', 'L', 'M', 'N', 'O', 'P',
	'Q', 'R', 'S', 'T', 'U', 'V', 'W', 'X', 'Y', 'Z', 'a', 'b', 'c', 'd', 'e', 'f',
	'g', 'h', 'i', 'j', 'k', 'l', 'm', 'n', 'o', 'p', 'q', 'r', 's', 't', 'u', 'v',
	'w', 'x', 'y', 'z', '0', '1', '2', '3', '4', '5', '6', '7', '8', '9', '+', '/',
}

// noLetter: a number of no letter.
const noLetter = 64

// letterNumbers: for every byte the number that it stands for, or noLetter. It is made for each text, so that the alphabet is written once alone.
func letterNumbers() [256]uint32 {
	var numbers [256]uint32
	for i := range numbers {
		numbers[i] = noLetter
	}
	for i := range letters {
		numbers[letters[i]] = uint32(i)
	}
	return numbers
}

// EncodeBase64: the standard alphabet, with padding, no line's end.
func EncodeBase64(b []byte) string {
	s := make([]byte, 0, (len(b)+2)/3*4)
	for i := 0; i < len(b); i += 3 {
		s = appendGroup(s, b[i:min(i+3, len(b))])
	}
	return string(s)
}

// appendGroup: s and the four letters of one to three bytes. Bytes that are not there count as zeros, and letters of nothing but them give way to the padding.
func appendGroup(s, group []byte) []byte {
	var bits uint32
	for i, x := range group {
		bits |= uint32(x) << (16 - 8*i)
	}
	for i := range 4 {
		if i > len(group) {
			s = append(s, '=')
		} else {
			s = append(s, letters[bits>>(18-6*i)&63])
		}
	}
	return s
}

// DecodeBase64: of just the texts that EncodeBase64 gives; ErrBase64 else (padding amiss, unused bits that aren't 0, any other byte).
func DecodeBase64(s string) ([]byte, api.Errno) {
	if tooLong(s) {
		return nil, api.ErrLong
	}
	if len(s)%4 != 0 {
		return nil, api.ErrBase64
	}
	b, ok := bytesOfLetters(withoutPadding(s))
	if !ok {
		return nil, api.ErrBase64
	}
	return b, api.OK
}

// withoutPadding: s without the two padding bytes that may stand at its end; any further one is no letter.
func withoutPadding(s string) string {
	return strings.TrimSuffix(strings.TrimSuffix(s, "="), "=")
}

// bytesOfLetters: the whole bytes that the letters' bits make; false, if a byte is no letter or a bit behind the last whole byte is not 0.
func bytesOfLetters(s string) ([]byte, bool) {
	numbers := letterNumbers()
	b := make([]byte, 0, len(s)*6/8)
	var bits uint32 // those that have made no byte yet
	count := 0
	for i := range len(s) {
		number := numbers[s[i]]
		if number == noLetter {
			return nil, false
		}
		bits = bits<<6 | number
		count += 6
		if count >= 8 {
			count -= 8
			b = append(b, byte(bits>>count))
			bits &= 1<<count - 1
		}
	}
	return b, bits == 0
}
