package scalar

import "math/bits"

// number: four limbs of 64 bits, the low one first.
type number [4]uint64

// product: the number low + 2^256 high.
type product struct{ low, high number }

// multiples: 0, L, 2L .. 16L. The last one alone is above 2^256, and stands here without that bit: it is only ever subtracted modulo 2^256.
var multiples = [17]number{
	{0, 0, 0, 0},
	{0x5812631a5cf5d3ed, 0x14def9dea2f79cd6, 0, 0x1000000000000000},
	{0xb024c634b9eba7da, 0x29bdf3bd45ef39ac, 0, 0x2000000000000000},
	{0x0837294f16e17bc7, 0x3e9ced9be8e6d683, 0, 0x3000000000000000},
	{0x60498c6973d74fb4, 0x537be77a8bde7359, 0, 0x4000000000000000},
	{0xb85bef83d0cd23a1, 0x685ae1592ed6102f, 0, 0x5000000000000000},
	{0x106e529e2dc2f78e, 0x7d39db37d1cdad06, 0, 0x6000000000000000},
	{0x6880b5b88ab8cb7b, 0x9218d51674c549dc, 0, 0x7000000000000000},
	{0xc09318d2e7ae9f68, 0xa6f7cef517bce6b2, 0, 0x8000000000000000},
	{0x18a57bed44a47355, 0xbbd6c8d3bab48389, 0, 0x9000000000000000},
	{0x70b7df07a19a4742, 0xd0b5c2b25dac205f, 0, 0xa000000000000000},
	{0xc8ca4221fe901b2f, 0xe594bc9100a3bd35, 0, 0xb000000000000000},
	{0x20dca53c5b85ef1c, 0xfa73b66fa39b5a0c, 0, 0xc000000000000000},
	{0x78ef0856b87bc309, 0x0f52b04e4692f6e2, 1, 0xd000000000000000},
	{0xd1016b71157196f6, 0x2431aa2ce98a93b8, 1, 0xe000000000000000},
	{0x2913ce8b72676ae3, 0x3910a40b8c82308f, 1, 0xf000000000000000},
	{0x812631a5cf5d3ed0, 0x4def9dea2f79cd65, 1, 0},
}

func load(b [32]byte) number {
	var x number
	for i := range 32 {
		x[i/8] |= uint64(b[i]) << (i % 8 * 8)
	}
	return x
}

func (x number) bytes() [32]byte {
	var b [32]byte
	for i := range 32 {
		b[i] = byte(x[i/8] >> (i % 8 * 8))
	}
	return b
}

// add: x + y, of which the lowest 256 bits stay in x and the bit above is told.
func (x *number) add(y number) (carry uint64) {
	for i := range 4 {
		x[i], carry = bits.Add64(x[i], y[i], carry)
	}
	return carry
}

// subtract: x - y, modulo 2^256.
func (x *number) subtract(y number) {
	var borrow uint64
	for i := range 4 {
		x[i], borrow = bits.Sub64(x[i], y[i], borrow)
	}
}

// divide: leaves in x a number modulo L, of which x were the lowest 256 bits and quotient, at most 16, is all that stood from bit 252 on.
//
// L is 2^252 and less than 2^125 more, so the quotient by 2^252 is that by L, or one too great. Without so many times L less than 2^252 is left, and where that is below 0, by less than 2^129, one L is put back.
func (x *number) divide(quotient uint64) {
	x.subtract(multiples[quotient])
	if x[3]>>63 == 1 {
		x.add(multiples[1])
	}
}

func (x number) reduced() number {
	x.divide(x[3] >> 60)
	return x
}

// follow: x, which is below L, becomes 16 x and a digit from 0 to 15 more, modulo L.
func (x *number) follow(digit uint64) {
	quotient := x[3] >> 56 // what stands from bit 248 on comes to stand from bit 252 on
	for i := range 4 {
		x[i], digit = x[i]<<4|digit, x[i]>>60
	}
	x.divide(quotient)
}

// reduced: the digits of the low half follow the high one, as in long division by hand.
func (p product) reduced() number {
	x := p.high.reduced()
	for i := range 64 {
		x.follow(p.low[3-i/16] >> (60 - i%16*4) & 15)
	}
	return x
}

// timesPlus: x y + z, which is below 2^512 whatever the three are. So is every step below 2^128: (2^64-1)^2 + 2 (2^64-1) is 2^128-1.
func (x number) timesPlus(y, z number) product {
	w := [8]uint64{z[0], z[1], z[2], z[3]}
	for i := range 4 {
		var carry uint64
		for j := range 4 {
			high, low := bits.Mul64(x[i], y[j])
			low, over := bits.Add64(low, w[i+j], 0)
			high += over
			w[i+j], over = bits.Add64(low, carry, 0)
			carry = high + over
		}
		w[i+4] = carry
	}
	return product{low: number(w[:4]), high: number(w[4:])}
}

// negated: of a number below L.
func (x number) negated() number {
	if x == (number{}) {
		return x
	}
	y := multiples[1]
	y.subtract(x)
	return y
}

// inverse: x^(L-2), bit by bit from the highest one; so 0 for 0.
func (x number) inverse() number {
	exponent := number{2}.negated()
	power := number{1}
	for i := range 253 {
		power = power.timesPlus(power, number{}).reduced()
		if place := 252 - i; exponent[place/64]>>(place%64)&1 == 1 {
			power = power.timesPlus(x, number{}).reduced()
		}
	}
	return power
}
