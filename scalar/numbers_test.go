package scalar_test

import (
	"encoding/hex"
	"math/big"
	"math/rand"
	"slices"
	"strings"
	"testing"

	"ledger/scalar"
)

var (
	one      = big.NewInt(1)
	order, _ = new(big.Int).SetString("7237005577332262213973186563042994240857116359379907606001950938285454250989", 10)
)

// Hexadecimal, in the order of the bytes.
const (
	orderHex = "edd3f55c1a631258d69cf7a2def9de1400000000000000000000000000000010"
	less1    = "ecd3f55c1a631258d69cf7a2def9de1400000000000000000000000000000010"
	more1    = "eed3f55c1a631258d69cf7a2def9de1400000000000000000000000000000010"
	more2    = "efd3f55c1a631258d69cf7a2def9de1400000000000000000000000000000010"
	powerHex = "95988d7431ecd670cf7d73f45befc6feffffffffffffffffffffffffffff0f" // 2^256 modulo L, but for its first byte
)

var ones = strings.Repeat("ff", 32)

func zeros(n int) string { return strings.Repeat("00", n) }

// fill: puts a number from 0 on into b, the low byte first.
func fill(b []byte, x *big.Int) {
	x.FillBytes(b)
	slices.Reverse(b)
}

func bytesOf(x *big.Int) (a [32]byte) {
	fill(a[:], x)
	return a
}

func wideOf(x *big.Int) (w [64]byte) {
	fill(w[:], x)
	return w
}

// numberOf: of any count of bytes.
func numberOf(b []byte) *big.Int {
	b = slices.Clone(b)
	slices.Reverse(b)
	return new(big.Int).SetBytes(b)
}

// number: of 32 bytes.
func number(a [32]byte) *big.Int { return numberOf(a[:]) }

// mod: the bytes of x modulo L, for an x below 0 too.
func mod(x *big.Int) [32]byte { return bytesOf(new(big.Int).Mod(x, order)) }

// wide: of hexadecimal digits, filled up with zeros.
func wide(t testing.TB, s string) (w [64]byte) {
	t.Helper()
	b, err := hex.DecodeString(s)
	if err != nil || len(b) > len(w) {
		t.Fatalf("a test's own number: %q", s)
	}
	copy(w[:], b)
	return w
}

// narrow: of at most 32 bytes in hexadecimal digits, filled up with zeros.
func narrow(t testing.TB, s string) [32]byte {
	t.Helper()
	w := wide(t, s)
	return [32]byte(w[:32])
}

// edges: the numbers of so many bits about the powers of 2 and the multiples of L; of the multiples also those that stand further up, where a division by hand meets them on its way.
func edges(size int) []*big.Int {
	var l []*big.Int
	put := func(x *big.Int, distances ...int64) {
		for _, d := range distances {
			if y := new(big.Int).Add(x, big.NewInt(d)); y.Sign() >= 0 && y.BitLen() <= size {
				l = append(l, y)
			}
		}
	}
	put(new(big.Int), 0, 1, 2, 3, 127, 128, 129, 255, 256, 257)
	for n := range size + 1 {
		put(new(big.Int).Lsh(one, uint(n)), -2, -1, 0, 1)
	}
	for k := range int64(17) {
		multiple := new(big.Int).Mul(order, big.NewInt(k+1))
		for shift := 0; shift <= size-252; shift += 2 {
			put(new(big.Int).Lsh(multiple, uint(shift)), -1, 0, 1)
		}
		put(multiple, -300, -128, -2, 2, 128, 300)
		put(new(big.Int).Lsh(big.NewInt(k+1), 252), -1, 0, 1)
	}
	return l
}

// some: numbers of so many bits and of no plain pattern, the same ones every time.
func some(count, size int) []*big.Int {
	r := rand.New(rand.NewSource(int64(size)))
	bound := new(big.Int).Lsh(one, uint(size))
	l := make([]*big.Int, count)
	for i := range l {
		l[i] = new(big.Int).Rand(r, bound)
	}
	return l
}

// inputs: edges and others of 256 bits.
func inputs() [][32]byte {
	var l [][32]byte
	for _, x := range slices.Concat(edges(256), some(300, 256)) {
		l = append(l, bytesOf(x))
	}
	return l
}

// few: so many of the inputs, from all over the list.
func few(count int) [][32]byte {
	l := inputs()
	picked := make([][32]byte, count)
	for i := range picked {
		picked[i] = l[i*len(l)/count]
	}
	return append(picked, bytesOf(new(big.Int)), bytesOf(one), bytesOf(order), [32]byte(slices.Repeat([]byte{0xff}, 32)))
}

func TestOrder(t *testing.T) { // P3.1
	if got := scalar.Order(); got != narrow(t, orderHex) || got != bytesOf(order) {
		t.Errorf("Order() = %x", got)
	}
}

func TestCanonical(t *testing.T) { // P3.2
	for s, want := range map[string]bool{
		"": true, less1: true, orderHex: false, more1: false, ones: false,
		zeros(31) + "10": true, zeros(31) + "11": false, zeros(31) + "80": false,
		strings.Repeat("ff", 31) + "0f": true,
	} {
		if got := scalar.Canonical(narrow(t, s)); got != want {
			t.Errorf("Canonical(%s) = %v", s, got)
		}
	}
	for _, a := range inputs() {
		if got, want := scalar.Canonical(a), number(a).Cmp(order) < 0; got != want {
			t.Errorf("Canonical(%x) = %v", a, got)
		}
	}
}

func TestReduce(t *testing.T) { // P3.3
	for _, x := range slices.Concat(edges(512), some(2000, 512), edges(256)) {
		if got, want := scalar.Reduce(wideOf(x)), mod(x); got != want {
			t.Errorf("Reduce(%x) = %x, want %x", wideOf(x), got, want)
		}
	}
	for _, half := range some(200, 256) { // a half of nothing but ones, or of nothing
		for _, other := range []*big.Int{new(big.Int), new(big.Int).Sub(new(big.Int).Lsh(one, 256), one)} {
			for _, parts := range [][2]*big.Int{{half, other}, {other, half}} {
				x := new(big.Int).Lsh(parts[0], 256)
				x.Add(x, parts[1])
				if got, want := scalar.Reduce(wideOf(x)), mod(x); got != want {
					t.Errorf("Reduce(%x) = %x, want %x", wideOf(x), got, want)
				}
			}
		}
	}
}

func TestReduceExamples(t *testing.T) { // P3.3
	rising := make([]byte, 64)
	for i := range rising {
		rising[i] = byte(i)
	}
	for s, want := range map[string]string{
		"":                         "",
		orderHex:                   "",
		zeros(32) + "01":           "1d" + powerHex,
		strings.Repeat("ff", 64):   "000f9c44e31106a447938568a71b0ed065bef517d273ecce3d9a307c1b419903",
		hex.EncodeToString(rising): "7a3c6282f02d37a05023b60d5428e6cc5961d4c31221937adae0b574e4d07205",
	} {
		if got := scalar.Reduce(wide(t, s)); got != narrow(t, want) {
			t.Errorf("Reduce(%s) = %x, want %s", s, got, want)
		}
	}
}

func TestAdd(t *testing.T) { // P3.4
	for _, c := range [][3]string{
		{less1, "01", ""}, {less1, "02", "01"}, {ones, "01", "1d" + powerHex}, {ones, "", "1c" + powerHex},
		{"", ones, "1c" + powerHex}, {orderHex, orderHex, ""}, {more1, more2, "03"}, {"", "", ""},
	} {
		if got := scalar.Add(narrow(t, c[0]), narrow(t, c[1])); got != narrow(t, c[2]) {
			t.Errorf("Add(%s, %s) = %x, want %s", c[0], c[1], got, c[2])
		}
	}
	l := inputs()
	for _, a := range l {
		for _, b := range few(60) {
			if got, want := scalar.Add(a, b), mod(new(big.Int).Add(number(a), number(b))); got != want {
				t.Errorf("Add(%x, %x) = %x, want %x", a, b, got, want)
			}
		}
	}
}

func TestNeg(t *testing.T) { // P3.5
	for s, want := range map[string]string{"": "", orderHex: "", "01": less1, more1: less1, less1: "01"} {
		if got := scalar.Neg(narrow(t, s)); got != narrow(t, want) {
			t.Errorf("Neg(%s) = %x, want %s", s, got, want)
		}
	}
	for _, a := range inputs() { // the 15 multiples of L below 2^256 are among them
		if got, want := scalar.Neg(a), mod(new(big.Int).Neg(number(a))); got != want {
			t.Errorf("Neg(%x) = %x, want %x", a, got, want)
		}
	}
}

func TestMulAddExamples(t *testing.T) { // P3.6
	for _, c := range [][4]string{
		{"02", "03", "04", "0a"}, {less1, less1, "", "01"}, {less1, "01", "01", ""}, {orderHex, ones, orderHex, ""},
		{ones, ones, ones, "d14df91389432c25ad60ff9791b9fd1d67bef517d273ecce3d9a307c1b419903"},
		{"", ones, "07", "07"}, {ones, "", "07", "07"}, {ones, "01", "", "1c" + powerHex}, {"", "", ones, "1c" + powerHex},
	} {
		if got := scalar.MulAdd(narrow(t, c[0]), narrow(t, c[1]), narrow(t, c[2])); got != narrow(t, c[3]) {
			t.Errorf("MulAdd(%s, %s, %s) = %x, want %s", c[0], c[1], c[2], got, c[3])
		}
	}
}

// checkMulAdd: each number with each of the others, and each of those that are added.
func checkMulAdd(t *testing.T, l, others, added [][32]byte) {
	t.Helper()
	for _, a := range l {
		for _, b := range others {
			for _, c := range added {
				x := new(big.Int).Mul(number(a), number(b))
				if got, want := scalar.MulAdd(a, b, c), mod(x.Add(x, number(c))); got != want {
					t.Fatalf("MulAdd(%x, %x, %x) = %x, want %x", a, b, c, got, want)
				}
			}
		}
	}
}

func TestMulAdd(t *testing.T) { // P3.6
	checkMulAdd(t, inputs(), few(24), few(8))
}

// TestMulAddCarries: limbs of nothing but ones and of nothing, in all mixtures, so that every carry between them comes about.
func TestMulAddCarries(t *testing.T) { // P3.6
	var l [][32]byte
	for mixture := range 16 {
		var a [32]byte
		for i := range a {
			if mixture>>(i/8)&1 == 1 {
				a[i] = 0xff
			}
		}
		l = append(l, a)
	}
	checkMulAdd(t, l, l, l)
}

func TestInvert(t *testing.T) { // P3.7
	half, third := "f7e97a2e8d31092c6bce7b51ef7c6f0a"+zeros(15)+"08", "498d4e9311420c903913a56c94a694b8"+strings.Repeat("aa", 15)+"0a"
	for s, want := range map[string]string{"": "", orderHex: "", "01": "01", more1: "01", less1: less1, "02": half, more2: half, "03": third} {
		if got := scalar.Invert(narrow(t, s)); got != narrow(t, want) {
			t.Errorf("Invert(%s) = %x, want %s", s, got, want)
		}
	}
	for _, a := range few(200) {
		var want [32]byte
		if x := new(big.Int).ModInverse(number(a), order); x != nil {
			want = bytesOf(x)
		}
		if got := scalar.Invert(a); got != want {
			t.Errorf("Invert(%x) = %x, want %x", a, got, want)
		}
	}
	for k := range int64(15) {
		if got := scalar.Invert(bytesOf(new(big.Int).Mul(order, big.NewInt(k+1)))); got != [32]byte{} {
			t.Errorf("Invert of %d L = %x", k+1, got)
		}
	}
}

func TestClamp(t *testing.T) { // P3.8
	for s, want := range map[string]string{
		"": zeros(31) + "40", ones: "f8" + strings.Repeat("ff", 30) + "7f", "07" + zeros(30) + "c0": zeros(31) + "40",
		"0f" + strings.Repeat("ab", 30) + "85": "08" + strings.Repeat("ab", 30) + "45",
	} {
		if got := scalar.Clamp(narrow(t, s)); got != narrow(t, want) {
			t.Errorf("Clamp(%s) = %x, want %s", s, got, want)
		}
	}
	for _, h := range inputs() {
		x := number(h)
		for bit, value := range map[int]uint{0: 0, 1: 0, 2: 0, 254: 1, 255: 0} {
			x.SetBit(x, bit, value)
		}
		if got, want := scalar.Clamp(h), bytesOf(x); got != want {
			t.Errorf("Clamp(%x) = %x, want %x", h, got, want)
		}
	}
}
