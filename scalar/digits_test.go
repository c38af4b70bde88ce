package scalar_test

import (
	"math/big"
	"math/rand"
	"slices"
	"strings"
	"testing"

	"ledger/api"
	"ledger/scalar"
)

// formOf: the digits, found as the document says.
func formOf(x *big.Int, w int) []int8 {
	n, whole := new(big.Int).Set(x), int64(1)<<w
	digits := make([]int8, 257)
	for i := range digits {
		if n.Bit(0) == 1 {
			d := new(big.Int).Mod(n, big.NewInt(whole)).Int64()
			if d > whole/2 {
				d -= whole
			}
			digits[i] = int8(d)
			n.Sub(n, big.NewInt(d))
		}
		n.Rsh(n, 1)
	}
	return digits
}

// sumOf: of each digit times its power of 2.
func sumOf(digits []int8) *big.Int {
	x := new(big.Int)
	for i := len(digits) - 1; i >= 0; i-- {
		x.Lsh(x, 1)
		x.Add(x, big.NewInt(int64(digits[i])))
	}
	return x
}

// checkForm: holds a list to the three lines by which a non-adjacent form is known.
func checkForm(t *testing.T, a [32]byte, w int, digits []int8) {
	t.Helper()
	if len(digits) != 257 || sumOf(digits).Cmp(number(a)) != 0 {
		t.Errorf("Digits(%x, %d): %d digits, whose sum is %x", a, w, len(digits), sumOf(digits))
	}
	last := -w
	for i, d := range digits {
		if d == 0 {
			continue
		}
		if bound := 1 << (w - 1); d%2 == 0 || int(d) <= -bound || int(d) >= bound {
			t.Errorf("Digits(%x, %d): digit %d is %d", a, w, i, d)
		}
		if i-last < w {
			t.Errorf("Digits(%x, %d): digits %d and %d are both not 0", a, w, last, i)
		}
		last = i
	}
}

func TestDigits(t *testing.T) { // P3.9
	l := inputs()
	for d := range int64(600) { // numbers that carry beyond 256 bits, or just don't
		l = append(l, bytesOf(new(big.Int).Sub(new(big.Int).Lsh(one, 256), big.NewInt(d+1))), bytesOf(big.NewInt(d)))
	}
	for w := 2; w <= 8; w++ {
		for _, a := range l {
			got, e := scalar.Digits(a, w)
			if e != api.OK {
				t.Fatalf("Digits(%x, %d): error %d", a, w, int(e))
			}
			checkForm(t, a, w, got)
			if want := formOf(number(a), w); !slices.Equal(got, want) {
				t.Errorf("Digits(%x, %d) = %v, want %v", a, w, got, want)
			}
		}
	}
}

func TestDigitsExamples(t *testing.T) { // P3.9
	type place struct {
		at    int
		digit int8
	}
	for _, c := range []struct {
		a     string
		width []int
		want  []place
	}{
		{"07", []int{2, 3}, []place{{0, -1}, {3, 1}}},
		{"07", []int{4, 5, 6, 7, 8}, []place{{0, 7}}},
		{ones, []int{2, 3, 4, 5, 6, 7, 8}, []place{{0, -1}, {256, 1}}},
		{"", []int{2, 3, 4, 5, 6, 7, 8}, nil},
		{"0001", []int{8}, []place{{8, 1}}},
		{"81", []int{8}, []place{{0, -127}, {8, 1}}},
		{"80", []int{8}, []place{{7, 1}}},
		{"7f", []int{8}, []place{{0, 127}}},
		{"0d", []int{3}, []place{{0, -3}, {4, 1}}},
		{zeros(31) + "80", []int{2, 6, 8}, []place{{255, 1}}},
		{"81" + strings.Repeat("ff", 31), []int{8}, []place{{0, -127}, {256, 1}}},
	} {
		want := make([]int8, 257)
		for _, p := range c.want {
			want[p.at] = p.digit
		}
		for _, w := range c.width {
			if got, e := scalar.Digits(narrow(t, c.a), w); !slices.Equal(got, want) || e != api.OK {
				t.Errorf("Digits(%s, %d) = %v, %d, want %v", c.a, w, got, int(e), c.want)
			}
		}
	}
}

func TestDigitsOfNoWidth(t *testing.T) { // P3.9, P0.1
	for _, w := range []int{1, 0, -1, -2, -8, 9, 10, 16, 63, 64, 258, 65538, 1<<32 + 5, 1<<63 - 1, -1 << 63, -1<<63 + 5} {
		for _, a := range few(5) {
			if got, e := scalar.Digits(a, w); len(got) != 0 || e != api.ErrArg {
				t.Errorf("Digits(%x, %d): %d digits, error %d", a, w, len(got), int(e))
			}
		}
	}
}

// someDigits: any, the same ones every time.
func someDigits(count int) []int8 {
	r := rand.New(rand.NewSource(int64(count)))
	digits := make([]int8, count)
	for i := range digits {
		digits[i] = int8(r.Intn(256) - 128)
	}
	return digits
}

func TestValue(t *testing.T) { // P3.10
	for count := range 301 {
		lists := [][]int8{someDigits(count)}
		for _, d := range []int8{-128, -127, -1, 0, 1, 2, 127} {
			lists = append(lists, slices.Repeat([]int8{d}, count))
			if count > 0 { // at the highest place alone
				alone := make([]int8, count)
				alone[count-1] = d
				lists = append(lists, alone)
			}
		}
		for _, digits := range lists {
			if got, e := scalar.Value(digits); got != mod(sumOf(digits)) || e != api.OK {
				t.Errorf("Value(%v) = %x, %d, want %x", digits, got, int(e), mod(sumOf(digits)))
			}
		}
	}
	for d := -128; d < 128; d++ { // each digit there is
		if got, e := scalar.Value([]int8{int8(d)}); got != mod(big.NewInt(int64(d))) || e != api.OK {
			t.Errorf("Value of %d = %x, %d", d, got, int(e))
		}
	}
}

func TestValueExamples(t *testing.T) { // P3.10
	last := make([]int8, 300)
	last[299] = 1
	for _, c := range []struct {
		digits []int8
		want   string
	}{
		{nil, ""}, {[]int8{}, ""}, {[]int8{-1}, less1}, {[]int8{0, 0, 3}, "0c"}, {[]int8{-128, 64}, ""}, {[]int8{2, 2}, "06"},
		{slices.Repeat([]int8{-128}, 300), "80000000000080f6e97a2e8d31092c6bce7b51ef7c6f0a" + zeros(9)},
		{last, "edd3f55c1ae31b6e5b6e6a71d5cd734684ae108390f5" + strings.Repeat("ff", 9) + "0f"},
	} {
		if got, e := scalar.Value(c.digits); got != narrow(t, c.want) || e != api.OK {
			t.Errorf("Value(%v) = %x, %d, want %s", c.digits, got, int(e), c.want)
		}
	}
}

func TestValueTooLong(t *testing.T) { // P3.10, P0.1
	for _, count := range []int{301, 302, 320, 512, 556, 1000, 65536, 65836, 1 << 20} {
		for _, digits := range [][]int8{make([]int8, count), someDigits(count)} {
			if got, e := scalar.Value(digits); got != [32]byte{} || e != api.ErrLong {
				t.Errorf("Value of %d digits = %x, error %d", count, got, int(e))
			}
		}
	}
}

func TestValueOfDigits(t *testing.T) { // P3.9, P3.10
	for i, a := range inputs() {
		digits, _ := scalar.Digits(a, 2+i%7)
		if got, e := scalar.Value(digits); got != mod(number(a)) || e != api.OK {
			t.Errorf("the value of the digits of %x = %x, %d", a, got, int(e))
		}
	}
}
