package field_test

import (
	"math/big"
	"testing"

	"ledger/field"
)

func TestPow(t *testing.T) { // P2.7
	bases := append(some(8), small(0), small(1), small(2), mod(big.NewInt(-1)), bytesOf(prime), digits(t, "da ff*31"), digits(t, "ff*32"))
	exponents := append(some(12), small(0), small(1), small(2), small(3), small(255), small(256), bytesOf(prime), digits(t, "da ff*31"), digits(t, "ff*32"), digits(t, "00*31 80"), digits(t, "00*31 01"), digits(t, "ec ff*30 7f"))
	for i := range 256 { // each bit alone
		exponents = append(exponents, bytesOf(new(big.Int).Lsh(big.NewInt(1), uint(i))))
	}
	for _, a := range bases {
		x := new(big.Int).Mod(numberOf(a), prime)
		for _, e := range exponents {
			want := bytesOf(new(big.Int).Exp(x, numberOf(e), prime))
			if got := field.Pow(a, e); got != want {
				t.Errorf("Pow(%x, %x) = %x, want %x", a, e, got, want)
			}
		}
	}
}

func TestPowExamples(t *testing.T) { // P2.7
	for _, c := range []struct{ a, e, want string }{
		{"00", "00", "01"},
		{"ed ff*30 7f", "00", "01"},
		{"da ff*31", "00", "01"},
		{"07", "00", "01"},
		{"00", "07", "00"},
		{"ed ff*30 7f", "ff*32", "00"},
		{"00", "ed ff*30 7f", "00"}, // the exponent p is not 0
		{"02", "ff", "13"},
		{"02", "ff*32", "00*4 80"},
		{"02", "ed ff*30 7f", "02"},
		{"02", "ec ff*30 7f", "01"},
	} {
		if got := field.Pow(digits(t, c.a), digits(t, c.e)); got != digits(t, c.want) {
			t.Errorf("Pow(%s, %s) = %x, want %s", c.a, c.e, got, c.want)
		}
	}
}

func inverseOf(a [32]byte) [32]byte {
	x := new(big.Int).Mod(numberOf(a), prime)
	if x.Sign() == 0 {
		return [32]byte{}
	}
	return bytesOf(x.ModInverse(x, prime))
}

func TestInvert(t *testing.T) { // P2.8
	for _, a := range inputs() {
		if got, want := field.Invert(a), inverseOf(a); got != want {
			t.Errorf("Invert(%x) = %x, want %x", a, got, want)
		}
	}
	for _, c := range []struct{ a, want string }{
		{"00", "00"}, {"ed ff*30 7f", "00"}, {"da ff*31", "00"}, {"01", "01"},
		{"02", "f7 ff*30 3f"}, {"03", "49 55*31"}, {"04", "f2 ff*30 5f"}, {"ec ff*30 7f", "ec ff*30 7f"},
		{"42 db 01", "a4785913ca4deb75abd841414d0a700098e879777940c78c73fe6f2bee6c0352"},
	} {
		if got := field.Invert(digits(t, c.a)); got != digits(t, c.want) {
			t.Errorf("Invert(%s) = %x, want %s", c.a, got, c.want)
		}
	}
}

// checkBatch: holds a batch of at most 256 numbers against their inverses.
func checkBatch(t *testing.T, what string, l [][32]byte) {
	t.Helper()
	got := field.Batch(l)
	if len(got) != len(l) {
		t.Errorf("%s: Batch of %d numbers has %d", what, len(l), len(got))
		return
	}
	for i, a := range l {
		if want := inverseOf(a); got[i] != want {
			t.Errorf("%s: Batch, at place %d of %d (%x): %x, want %x", what, i, len(l), a, got[i], want)
		}
	}
}

func TestBatch(t *testing.T) { // P2.9
	checkBatch(t, "example", [][32]byte{small(2), {}, small(4)})
	for _, n := range []int{0, 1, 2, 3, 7, 100, 255, 256} {
		checkBatch(t, "any numbers", some(n))
		checkBatch(t, "zeros", make([][32]byte, n))
		mixed := some(n)
		for i := range mixed {
			switch i % 5 {
			case 0:
				mixed[i] = small(0)
			case 2:
				mixed[i] = bytesOf(prime)
			case 3:
				mixed[i] = digits(t, "da ff*31")
			}
		}
		checkBatch(t, "zeros between", mixed)
	}
	for l := edges(); len(l) > 0; l = l[min(len(l), 256):] {
		checkBatch(t, "edges", l[:min(len(l), 256)])
	}
	for place := range 4 { // one zero spoils no other place, wherever it stands
		l := some(4)
		l[place] = bytesOf(prime)
		checkBatch(t, "one zero", l)
	}
	same := make([][32]byte, 256)
	for i := range same {
		same[i] = small(3)
	}
	checkBatch(t, "equal numbers", same)
}

func TestBatchTooLong(t *testing.T) { // P2.9
	for _, n := range []int{257, 258, 512, 513, 65536, 100000} {
		if got := field.Batch(make([][32]byte, n)); len(got) != 0 {
			t.Errorf("Batch of %d zeros has %d numbers", n, len(got))
		}
		l := make([][32]byte, n)
		for i := range l {
			l[i] = small(int64(i + 1))
		}
		if got := field.Batch(l); len(got) != 0 {
			t.Errorf("Batch of %d numbers has %d", n, len(got))
		}
	}
}

// checkRoot: holds SqrtRatio against a reckoning by inverses and big roots.
func checkRoot(t *testing.T, u, v [32]byte) {
	t.Helper()
	var want [32]byte
	x, y := new(big.Int).Mod(numberOf(u), prime), numberOf(inverseOf(v))
	ok := x.Sign() == 0
	if !ok && y.Sign() != 0 {
		ratio := new(big.Int).Mod(new(big.Int).Mul(x, y), prime)
		if r := new(big.Int).ModSqrt(ratio, prime); r != nil {
			if r.Bit(0) == 1 {
				r.Sub(prime, r)
			}
			want, ok = bytesOf(r), true
		}
	}
	got, gotOK := field.SqrtRatio(u, v)
	if got != want || gotOK != ok {
		t.Errorf("SqrtRatio(%x, %x) = %x, %v, want %x, %v", u, v, got, gotOK, want, ok)
	}
}

func TestSqrtRatio(t *testing.T) { // P2.10
	l := append(some(24), small(0), small(1), small(2), small(3), small(4), small(5), mod(big.NewInt(-1)), mod(big.NewInt(-2)), bytesOf(prime), digits(t, "ee ff*30 7f"), digits(t, "da ff*31"), digits(t, "db ff*31"), digits(t, "ff*32"))
	for _, u := range l {
		for _, v := range l {
			checkRoot(t, u, v)
		}
	}
	for _, a := range edges() {
		checkRoot(t, a, small(1))
		checkRoot(t, small(1), a)
		checkRoot(t, field.Square(a), small(1))
		checkRoot(t, field.Neg(field.Square(a)), a)
	}
}

func TestSqrtRatioExamples(t *testing.T) { // P2.10
	for _, c := range []struct {
		u, v, r string
		ok      bool
	}{
		{"04", "01", "02", true},
		{"09", "01", "ea ff*30 7f", true},
		{"04", "09", "48 55*31", true},
		{"00", "00", "00", true},
		{"ed ff*30 7f", "da ff*31", "00", true},
		{"01", "00", "00", false},
		{"ee ff*30 7f", "ed ff*30 7f", "00", false},
		{"02", "da ff*31", "00", false},
		{"02", "01", "00", false},
		{"01", "02", "00", false},
		{"ed ff*30 7f", "03", "00", true},
		{"da ff*31", "02", "00", true},
		{"ec ff*30 7f", "01", "b0a00e4a271beec478e42fad0618432fa7d7fb3d99004d2b0bdfc14f8024832b", true},
		{"05", "01", "6a677a5d934ccbfab8ff5d8f085a0b553f94527d9c49ae140f8ed135e1449b29", true},
	} {
		r, ok := field.SqrtRatio(digits(t, c.u), digits(t, c.v))
		if r != digits(t, c.r) || ok != c.ok {
			t.Errorf("SqrtRatio(%s, %s) = %x, %v, want %s, %v", c.u, c.v, r, ok, c.r, c.ok)
		}
	}
}

func TestLegendre(t *testing.T) { // P2.11
	for _, a := range inputs() {
		x := new(big.Int).Mod(numberOf(a), prime)
		if got, want := field.Legendre(a), big.Jacobi(x, prime); got != want {
			t.Errorf("Legendre(%x) = %d, want %d", a, got, want)
		}
	}
	for s, want := range map[string]int{"00": 0, "ed ff*30 7f": 0, "da ff*31": 0, "01": 1, "02": -1, "03": 1, "ec ff*30 7f": 1, "ee ff*30 7f": 1, "00*31 80": -1} {
		if got := field.Legendre(digits(t, s)); got != want {
			t.Errorf("Legendre(%s) = %d, want %d", s, got, want)
		}
	}
}
