package field

import "math/bits"

// number: four limbs of 64 bits, the low one first. Between its operations a number is any of 256 bits, and stands for itself modulo p; only canonical numbers are compared as arrays.
type number [4]uint64

var (
	one = number{1, 0, 0, 0}
	// rootOfMinusOne: 2^((p-1)/4), of which the square is -1, as 2 is no square.
	rootOfMinusOne = number{0xc4ee1b274a0ea0b0, 0x2f431806ad2fe478, 0x2b4d00993dfbd7a7, 0x2b8324804fc1df0b}
)

const (
	fold255 = 19 // 2^255 modulo p
	fold256 = 38 // 2^256 modulo p
	low63   = 1<<63 - 1
)

func word(b []byte) uint64 {
	_ = b[7] // one look at the length does for all eight
	return uint64(b[0]) | uint64(b[1])<<8 | uint64(b[2])<<16 | uint64(b[3])<<24 |
		uint64(b[4])<<32 | uint64(b[5])<<40 | uint64(b[6])<<48 | uint64(b[7])<<56
}

func putWord(b []byte, w uint64) {
	_ = b[7]
	b[0] = byte(w)
	b[1] = byte(w >> 8)
	b[2] = byte(w >> 16)
	b[3] = byte(w >> 24)
	b[4] = byte(w >> 32)
	b[5] = byte(w >> 40)
	b[6] = byte(w >> 48)
	b[7] = byte(w >> 56)
}

func load(b [32]byte) number {
	return number{word(b[0:8]), word(b[8:16]), word(b[16:24]), word(b[24:32])}
}

// bytes: of the canonical number.
func (x number) bytes() [32]byte {
	x = x.canonical()
	var b [32]byte
	putWord(b[0:8], x[0])
	putWord(b[8:16], x[1])
	putWord(b[16:24], x[2])
	putWord(b[24:32], x[3])
	return b
}

// addSmall: the limbs and a small number, and what they carry beyond 256 bits.
func addSmall(x0, x1, x2, x3, small uint64) (y0, y1, y2, y3, carry uint64) {
	y0, carry = bits.Add64(x0, small, 0)
	y1, carry = bits.Add64(x1, 0, carry)
	y2, carry = bits.Add64(x2, 0, carry)
	y3, carry = bits.Add64(x3, 0, carry)
	return y0, y1, y2, y3, carry
}

// canonical: x modulo p. The highest bit is folded first, which leaves less than 2^255 + 19, so less than 2p; then x is p or more exactly if x + 19 reaches 2^255, and x - p is what x + 19 has below that bit.
func (x number) canonical() number {
	x0, x1, x2, x3, _ := addSmall(x[0], x[1], x[2], x[3]&low63, fold255*(x[3]>>63))
	_, _, _, raised, _ := addSmall(x0, x1, x2, x3, fold255)
	x0, x1, x2, x3, _ = addSmall(x0, x1, x2, x3, fold255*(raised>>63))
	return number{x0, x1, x2, x3 & low63}
}

func (x number) equals(y number) bool { return x.canonical() == y.canonical() }

func (x number) zero() bool { return x.canonical() == number{} }

func (x number) odd() bool { return x.canonical()[0]&1 == 1 }

// plusHigh: x + high 2^256, for a high of at most 38. If adding 38 high carries, less than 38 high is left, and the second fold can't carry again.
func plusHigh(x0, x1, x2, x3, high uint64) number {
	x0, x1, x2, x3, carry := addSmall(x0, x1, x2, x3, fold256*high)
	return number{x0 + fold256*carry, x1, x2, x3}
}

func (x number) plus(y number) number {
	x0, carry := bits.Add64(x[0], y[0], 0)
	x1, carry := bits.Add64(x[1], y[1], carry)
	x2, carry := bits.Add64(x[2], y[2], carry)
	x3, carry := bits.Add64(x[3], y[3], carry)
	return plusHigh(x0, x1, x2, x3, carry)
}

// minus: a borrow of 2^256 is paid back as 38. If that borrows too, x is within 38 of 2^256, and the second payment can't borrow again.
func (x number) minus(y number) number {
	x0, borrow := bits.Sub64(x[0], y[0], 0)
	x1, borrow := bits.Sub64(x[1], y[1], borrow)
	x2, borrow := bits.Sub64(x[2], y[2], borrow)
	x3, borrow := bits.Sub64(x[3], y[3], borrow)
	x0, borrow = bits.Sub64(x0, fold256*borrow, 0)
	x1, borrow = bits.Sub64(x1, 0, borrow)
	x2, borrow = bits.Sub64(x2, 0, borrow)
	x3, borrow = bits.Sub64(x3, 0, borrow)
	return number{x0 - fold256*borrow, x1, x2, x3}
}

func (x number) negated() number { return number{}.minus(x) }

// addProduct: sum + a b + carry, in two words, which always hold it: (2^64-1)^2 + 2 (2^64-1) is 2^128-1.
func addProduct(sum, a, b, carry uint64) (high, low uint64) {
	high, low = bits.Mul64(a, b)
	low, over := bits.Add64(low, sum, 0)
	high += over
	low, over = bits.Add64(low, carry, 0)
	return high + over, low
}

// addRow: the number of the words s, and a times the number of the words x, in five words.
func addRow(s0, s1, s2, s3, a, x0, x1, x2, x3 uint64) (t0, t1, t2, t3, t4 uint64) {
	t4, t0 = addProduct(s0, a, x0, 0)
	t4, t1 = addProduct(s1, a, x1, t4)
	t4, t2 = addProduct(s2, a, x2, t4)
	t4, t3 = addProduct(s3, a, x3, t4)
	return t0, t1, t2, t3, t4
}

// times: the words w are the low half of the product and the last s its high half, which counts 38 times.
func (x number) times(y number) number {
	w0, s1, s2, s3, s4 := addRow(0, 0, 0, 0, x[0], y[0], y[1], y[2], y[3])
	w1, s2, s3, s4, s5 := addRow(s1, s2, s3, s4, x[1], y[0], y[1], y[2], y[3])
	w2, s3, s4, s5, s6 := addRow(s2, s3, s4, s5, x[2], y[0], y[1], y[2], y[3])
	w3, s4, s5, s6, s7 := addRow(s3, s4, s5, s6, x[3], y[0], y[1], y[2], y[3])
	return plusHigh(addRow(w0, w1, w2, w3, fold256, s4, s5, s6, s7))
}

// squared: x to the power 2^n.
func (x number) squared(n int) number {
	for range n {
		x = x.times(x)
	}
	return x
}
