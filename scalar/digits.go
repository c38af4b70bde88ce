package scalar

import "slices"

const (
	minWidth  = 2
	maxWidth  = 8
	formSize  = 257 // one digit more than the number has bits: what is below 0 is made good by the digits above
	maxDigits = 300
)

// part: takes off an odd x the digit of width w that it ends with. What is left has its lowest 256 bits in x; carry is the bit above.
func (x *number) part(w int) (digit int8, carry uint64) {
	end := x[0] & (1<<w - 1)
	x[0] -= end
	if end < 1<<(w-1) {
		return int8(end), 0
	}
	return int8(int(end) - 1<<w), x.add(number{1 << w})
}

// halve: an even number, of which x are the lowest 256 bits and carry is the bit above.
func (x *number) halve(carry uint64) {
	for i := range 4 {
		limb := x[3-i]
		x[3-i] = limb>>1 | carry<<63
		carry = limb & 1
	}
}

// digitsOf: the non-adjacent form of width w.
func digitsOf(x number, w int) []int8 {
	digits := make([]int8, formSize)
	for i := range formSize {
		var carry uint64
		if x[0]&1 == 1 {
			digits[i], carry = x.part(w)
		}
		x.halve(carry)
	}
	return digits
}

// modulo: the digit as a number below L.
func modulo(digit int8) number {
	if digit < 0 {
		return number{uint64(-int(digit))}.negated()
	}
	return number{uint64(digit)}
}

// valueOf: from the last digit on. Each step's sum is below 3L, so nothing is carried.
func valueOf(digits []int8) number {
	var x number
	for _, digit := range slices.Backward(digits) {
		x.add(x)
		x.add(modulo(digit))
		x = x.reduced()
	}
	return x
}
