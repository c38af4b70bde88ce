package field_test

import (
	"encoding/hex"
	"math/big"
	"math/rand"
	"slices"
	"strings"
	"testing"

	"ledger/field"
)

var prime = new(big.Int).Sub(new(big.Int).Lsh(big.NewInt(1), 255), big.NewInt(19))

// bytesOf: the 32 bytes of a number from 0 to 2^256 - 1.
func bytesOf(x *big.Int) [32]byte {
	var a [32]byte
	x.FillBytes(a[:])
	slices.Reverse(a[:])
	return a
}

func numberOf(a [32]byte) *big.Int {
	slices.Reverse(a[:])
	return new(big.Int).SetBytes(a[:])
}

// mod: the bytes of x modulo p, for an x below 0 too.
func mod(x *big.Int) [32]byte { return bytesOf(new(big.Int).Mod(x, prime)) }

func small(n int64) [32]byte { return bytesOf(big.NewInt(n)) }

// digits: of hexadecimal digits in the bytes' order, where xx*n is a row of n equal bytes; what is missing is filled up with zeros.
func digits(t testing.TB, s string) [32]byte {
	t.Helper()
	var a [32]byte
	b := a[:0]
	for part := range strings.FieldsSeq(s) {
		one, times, many := strings.Cut(part, "*")
		n := 1
		if many {
			n = 0
			for _, c := range times {
				n = 10*n + int(c-'0')
			}
		}
		row, err := hex.DecodeString(strings.Repeat(one, n))
		if err != nil || len(b)+len(row) > 32 {
			t.Fatalf("a test's own number: %q", s)
		}
		b = append(b, row...)
	}
	return a
}

// edges: the numbers about 0, p, 2^255, 2p and 2^256, about the limbs' ends, and about what a limb's end becomes when the highest bit is folded.
func edges() [][32]byte {
	var l [][32]byte
	put := func(x *big.Int) {
		if x.Sign() >= 0 && x.BitLen() <= 256 {
			l = append(l, bytesOf(x))
		}
	}
	twice := new(big.Int).Lsh(prime, 1)
	whole := new(big.Int).Lsh(big.NewInt(1), 256)
	for _, base := range []*big.Int{big.NewInt(0), prime, twice, whole} {
		for d := int64(-40); d <= 40; d++ {
			put(new(big.Int).Add(base, big.NewInt(d)))
		}
	}
	for _, n := range []uint{8, 32, 51, 63, 64, 65, 102, 127, 128, 129, 153, 191, 192, 193, 204, 254} {
		power := new(big.Int).Lsh(big.NewInt(1), n)
		for _, base := range []*big.Int{big.NewInt(0), new(big.Int).Lsh(big.NewInt(1), 255)} {
			for _, d := range []int64{-39, -38, -37, -20, -19, -18, -1, 0, 1, 19} {
				put(new(big.Int).Add(new(big.Int).Add(base, power), big.NewInt(d)))
			}
			put(new(big.Int).Sub(new(big.Int).Sub(prime, power), base))
		}
	}
	return l
}

// some: numbers of no plain pattern, the same ones every time.
func some(n int) [][32]byte {
	r := rand.New(rand.NewSource(int64(n)))
	l := make([][32]byte, n)
	for i := range l {
		r.Read(l[i][:])
	}
	return l
}

func inputs() [][32]byte { return append(edges(), some(300)...) }

// pairs: each edge with each, and each number with some others.
func pairs(yield func(a, b [32]byte) bool) {
	for _, a := range edges() {
		for _, b := range edges() {
			if !yield(a, b) {
				return
			}
		}
	}
	l := inputs()
	for i, a := range l {
		for j := range 80 {
			if !yield(a, l[(i+j*37)%len(l)]) {
				return
			}
		}
	}
}

func TestWhatNumbersAre(t *testing.T) { // P2.1, P2.2, P2.4
	for _, a := range inputs() {
		x := numberOf(a)
		if got, want := field.Canonical(a), x.Cmp(prime) < 0; got != want {
			t.Errorf("Canonical(%x) = %v", a, got)
		}
		if got, want := field.Reduce(a), mod(x); got != want {
			t.Errorf("Reduce(%x) = %x, want %x", a, got, want)
		}
		if got, want := field.Odd(a), new(big.Int).Mod(x, prime).Bit(0) == 1; got != want {
			t.Errorf("Odd(%x) = %v", a, got)
		}
	}
}

func TestReduceExamples(t *testing.T) { // P2.1, P2.2, P2.4
	for _, c := range []struct {
		a, reduced     string
		canonical, odd bool
	}{
		{"00", "00", true, false},
		{"01", "01", true, true},
		{"ec ff*30 7f", "ec ff*30 7f", true, false},
		{"ed ff*30 7f", "00", false, false},
		{"ee ff*30 7f", "01", false, true},
		{"ff*31 7f", "12", false, false},
		{"00*31 80", "13", false, true},
		{"d9 ff*31", "ec ff*30 7f", false, false},
		{"da ff*31", "00", false, false},
		{"db ff*31", "01", false, true},
		{"ff*32", "25", false, true},
	} {
		a := digits(t, c.a)
		if got := field.Reduce(a); got != digits(t, c.reduced) {
			t.Errorf("Reduce(%s) = %x, want %s", c.a, got, c.reduced)
		}
		if field.Canonical(a) != c.canonical || field.Odd(a) != c.odd {
			t.Errorf("%s: Canonical %v, Odd %v", c.a, field.Canonical(a), field.Odd(a))
		}
	}
}

func TestEqual(t *testing.T) { // P2.3
	l := append(edges(), some(40)...)
	for _, a := range l {
		for _, b := range l {
			if got, want := field.Equal(a, b), mod(numberOf(a)) == mod(numberOf(b)); got != want {
				t.Errorf("Equal(%x, %x) = %v", a, b, got)
			}
		}
	}
	for i := range 256 { // each bit counts
		a := some(1)[0]
		a[31] &= 0x3f
		b := a
		b[i/8] ^= 1 << (i % 8)
		if field.Equal(a, b) {
			t.Errorf("Equal(%x, %x), which part in bit %d", a, b, i)
		}
	}
}

func TestSums(t *testing.T) { // P2.5
	for _, a := range inputs() {
		if got, want := field.Neg(a), mod(new(big.Int).Neg(numberOf(a))); got != want {
			t.Errorf("Neg(%x) = %x, want %x", a, got, want)
		}
	}
	for a, b := range pairs {
		x, y := numberOf(a), numberOf(b)
		if got, want := field.Add(a, b), mod(new(big.Int).Add(x, y)); got != want {
			t.Errorf("Add(%x, %x) = %x, want %x", a, b, got, want)
		}
		if got, want := field.Sub(a, b), mod(new(big.Int).Sub(x, y)); got != want {
			t.Errorf("Sub(%x, %x) = %x, want %x", a, b, got, want)
		}
	}
}

// TestSumsThatFoldTwice: sums from 2^257 - 38 on, and differences of which the borrow, paid back as 38, borrows again.
func TestSumsThatFoldTwice(t *testing.T) { // P2.5
	top := new(big.Int).Sub(new(big.Int).Lsh(big.NewInt(1), 256), big.NewInt(1))
	for d := range int64(45) {
		for e := range int64(45) {
			x, y := new(big.Int).Sub(top, big.NewInt(d)), new(big.Int).Sub(top, big.NewInt(e))
			if got, want := field.Add(bytesOf(x), bytesOf(y)), mod(new(big.Int).Add(x, y)); got != want {
				t.Errorf("Add(%x, %x) = %x, want %x", bytesOf(x), bytesOf(y), got, want)
			}
			if got, want := field.Sub(small(d), bytesOf(y)), mod(new(big.Int).Sub(big.NewInt(d), y)); got != want {
				t.Errorf("Sub(%d, %x) = %x, want %x", d, bytesOf(y), got, want)
			}
		}
	}
}

func TestSumExamples(t *testing.T) { // P2.5
	for _, c := range []struct {
		name string
		call func(a, b [32]byte) [32]byte
		a, b string
		want string
	}{
		{"Add", field.Add, "ec ff*30 7f", "01", "00"},
		{"Add", field.Add, "ff*32", "ff*32", "4a"},
		{"Sub", field.Sub, "00", "01", "ec ff*30 7f"},
		{"Sub", field.Sub, "03", "ff*32", "cb ff*30 7f"},
	} {
		if got := c.call(digits(t, c.a), digits(t, c.b)); got != digits(t, c.want) {
			t.Errorf("%s(%s, %s) = %x, want %s", c.name, c.a, c.b, got, c.want)
		}
	}
	for _, c := range []struct{ a, want string }{
		{"00", "00"}, {"ed ff*30 7f", "00"}, {"da ff*31", "00"}, {"02", "eb ff*30 7f"}, {"ff*32", "c8 ff*30 7f"},
	} {
		if got := field.Neg(digits(t, c.a)); got != digits(t, c.want) {
			t.Errorf("Neg(%s) = %x, want %s", c.a, got, c.want)
		}
	}
}

func TestProducts(t *testing.T) { // P2.6
	for _, a := range inputs() {
		x := numberOf(a)
		if got, want := field.Square(a), mod(new(big.Int).Mul(x, x)); got != want {
			t.Errorf("Square(%x) = %x, want %x", a, got, want)
		}
	}
	for a, b := range pairs {
		want := mod(new(big.Int).Mul(numberOf(a), numberOf(b)))
		if got := field.Mul(a, b); got != want {
			t.Errorf("Mul(%x, %x) = %x, want %x", a, b, got, want)
		}
	}
}

// TestProductsThatFoldThrice: products that are a small number above a great multiple of 2p = 2^256 - 38. Folded once they end just below 2^256, so that what is carried carries again through all limbs.
func TestProductsThatFoldThrice(t *testing.T) { // P2.6
	twice := new(big.Int).Lsh(prime, 1)
	for i, a := range some(2000) {
		x := new(big.Int).Mod(numberOf(a), twice)
		inverse := new(big.Int).ModInverse(x, twice)
		if inverse == nil { // an even one has none
			continue
		}
		rest := big.NewInt(int64(i * 1500 / 2000))
		y := new(big.Int).Mod(inverse.Mul(inverse, rest), twice)
		if got := field.Mul(bytesOf(x), bytesOf(y)); got != mod(rest) {
			t.Errorf("Mul(%x, %x) = %x, want %x", bytesOf(x), bytesOf(y), got, mod(rest))
		}
	}
}

func TestProductExamples(t *testing.T) { // P2.6
	for _, c := range []struct{ a, b, want string }{
		{"ff*32", "ff*32", "59 05"},
		{"ec ff*30 7f", "05", "e8 ff*30 7f"},
		{"ec ff*30 7f", "ec ff*30 7f", "01"},
		{"00*16 01", "00*16 01", "26"},
		{"ed ff*30 7f", "07", "00"},
	} {
		a, b := digits(t, c.a), digits(t, c.b)
		if got := field.Mul(a, b); got != digits(t, c.want) {
			t.Errorf("Mul(%s, %s) = %x, want %s", c.a, c.b, got, c.want)
		}
		if c.a == c.b && field.Square(a) != digits(t, c.want) {
			t.Errorf("Square(%s) = %x, want %s", c.a, field.Square(a), c.want)
		}
	}
}
