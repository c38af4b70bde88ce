package text

import (
	"strconv"

	"ledger/api"
)

// FormatNumber: in tens, without zeros ahead; "-" ahead of one below 0.
func FormatNumber(n int64) string { return strconv.FormatInt(n, 10) }

// ParseNumber: ErrNumber, if s is not one or more digits without a zero ahead (0 alone may be); ErrRange, if the number is above max (a max below 0 lets none through; numbers beyond int64 too); else the number.
func ParseNumber(s string, max int64) (int64, api.Errno) {
	if tooLong(s) {
		return 0, api.ErrLong
	}
	if !isNumber(s) {
		return 0, api.ErrNumber
	}
	n, err := strconv.ParseInt(s, 10, 64)
	if err != nil || n > max { // of digits alone nothing fails but what is beyond int64
		return 0, api.ErrRange
	}
	return n, api.OK
}

// isNumber: one or more digits, and no zero ahead of another one.
func isNumber(s string) bool {
	for i := range len(s) {
		if s[i] < '0' || s[i] > '9' {
			return false
		}
	}
	return len(s) == 1 || len(s) > 1 && s[0] != '0'
}
