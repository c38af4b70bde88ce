package point_test

import (
	"encoding/hex"
	"math/big"
	"math/rand"
	"slices"
	"testing"

	"ledger/api"
	"ledger/point"
)

// The curve in whole numbers, by its definition: what the package is held against.
var (
	zero     = big.NewInt(0)
	one      = big.NewInt(1)
	two      = big.NewInt(2)
	prime    = new(big.Int).Sub(new(big.Int).Lsh(one, 255), big.NewInt(19))
	order    = decimal("7237005577332262213973186563042994240857116359379907606001950938285454250989")
	factor   = decimal("37095705934669439343138083508754565189542113879843219016388785533085940283555")
	identity = pair{zero, one}
	base     = pair{
		decimal("15112221349535400772501151409588531511454012693041857206046113283949847762202"),
		decimal("46316835694926478169428394003475163141307993866256225615783033603165251855960"),
	}
)

// smallForms: the forms of the eight small points, the opposite ones beside one another.
var smallForms = []string{
	"0100000000000000000000000000000000000000000000000000000000000000",
	"ecffffffffffffffffffffffffffffffffffffffffffffffffffffffffffff7f",
	"0000000000000000000000000000000000000000000000000000000000000000",
	"0000000000000000000000000000000000000000000000000000000000000080",
	"c7176a703d4dd84fba3c0b760d10670f2a2053fa2c39ccc64ec7fd7792ac037a",
	"c7176a703d4dd84fba3c0b760d10670f2a2053fa2c39ccc64ec7fd7792ac03fa",
	"26e8958fc2b227b045c3f489f2ef98f0d5dfac05d3c63339b13802886d53fc05",
	"26e8958fc2b227b045c3f489f2ef98f0d5dfac05d3c63339b13802886d53fc85",
}

// pair: two numbers from 0 to p - 1.
type pair struct{ x, y *big.Int }

func decimal(s string) *big.Int {
	x, ok := new(big.Int).SetString(s, 10)
	if !ok {
		panic("a test's own number: " + s)
	}
	return x
}

func mod(x *big.Int) *big.Int       { return new(big.Int).Mod(x, prime) }
func plus(x, y *big.Int) *big.Int   { return mod(new(big.Int).Add(x, y)) }
func minus(x, y *big.Int) *big.Int  { return mod(new(big.Int).Sub(x, y)) }
func times(x, y *big.Int) *big.Int  { return mod(new(big.Int).Mul(x, y)) }
func divide(x, y *big.Int) *big.Int { return times(x, new(big.Int).ModInverse(y, prime)) }

func (a pair) on() bool {
	xx, yy := times(a.x, a.x), times(a.y, a.y)
	return minus(yy, xx).Cmp(plus(one, times(factor, times(xx, yy)))) == 0
}

func (a pair) plus(b pair) pair {
	xu, yv := times(a.x, b.x), times(a.y, b.y)
	product := times(factor, times(xu, yv))
	return pair{
		divide(plus(times(a.x, b.y), times(a.y, b.x)), plus(one, product)),
		divide(plus(yv, xu), minus(one, product)),
	}
}

func (a pair) opposite() pair { return pair{minus(zero, a.x), a.y} }

func (a pair) times(n *big.Int) pair {
	sum := identity
	for i := n.BitLen() - 1; i >= 0; i-- {
		sum = sum.plus(sum)
		if n.Bit(i) == 1 {
			sum = sum.plus(a)
		}
	}
	return sum
}

func (a pair) point() point.Point { return point.Point{X: bytesOf(a.x), Y: bytesOf(a.y)} }

func pairOf(p point.Point) pair { return pair{numberOf(p.X), numberOf(p.Y)} }

// decoded: what Decode is to answer.
func decoded(b [32]byte) (point.Point, api.Errno) {
	whole := numberOf(b)
	sign := whole.Bit(255)
	y := new(big.Int).SetBit(whole, 255, 0)
	if y.Cmp(prime) >= 0 {
		return point.Point{}, api.ErrHigh
	}
	yy := times(y, y)
	x := new(big.Int).ModSqrt(divide(minus(yy, one), plus(times(factor, yy), one)), prime)
	if x == nil {
		return point.Point{}, api.ErrNoPoint
	}
	if x.Sign() == 0 && sign == 1 {
		return point.Point{}, api.ErrSignBit
	}
	if x.Bit(0) != sign {
		x = minus(zero, x)
	}
	return pair{x, y}.point(), api.OK
}

// formOf: what Encode is to answer.
func formOf(a pair) [32]byte {
	return bytesOf(new(big.Int).SetBit(a.y, 255, a.x.Bit(0)))
}

// bytesOf: the 32 bytes of a number from 0 to 2^256 - 1.
func bytesOf(x *big.Int) (b [32]byte) {
	x.FillBytes(b[:])
	slices.Reverse(b[:])
	return b
}

func numberOf(b [32]byte) *big.Int {
	slices.Reverse(b[:])
	return new(big.Int).SetBytes(b[:])
}

// digits: 32 bytes of hexadecimal digits.
func digits(t testing.TB, s string) [32]byte {
	t.Helper()
	b, err := hex.DecodeString(s)
	if err != nil || len(b) != 32 {
		t.Fatalf("a test's own number: %q", s)
	}
	return [32]byte(b)
}

// pointOf: of its form in hexadecimal digits, by the definition.
func pointOf(t testing.TB, s string) point.Point {
	t.Helper()
	p, e := decoded(digits(t, s))
	if e != api.OK {
		t.Fatalf("a test's own point: %q", s)
	}
	return p
}

// smallPoints: the eight.
func smallPoints(t testing.TB) []point.Point {
	t.Helper()
	var l []point.Point
	for _, s := range smallForms {
		l = append(l, pointOf(t, s))
	}
	return l
}

// some: numbers of 256 bits and of no plain pattern, the same ones every time.
func some(count int) []*big.Int {
	r := rand.New(rand.NewSource(4))
	bound := new(big.Int).Lsh(one, 256)
	l := make([]*big.Int, count)
	for i := range l {
		l[i] = new(big.Int).Rand(r, bound)
	}
	return l
}

// around: each number with so many neighbours to both sides, where they have 256 bits.
func around(distance int64, numbers ...*big.Int) []*big.Int {
	var l []*big.Int
	for _, x := range numbers {
		for k := -distance; k <= distance; k++ {
			if y := new(big.Int).Add(x, big.NewInt(k)); y.Sign() >= 0 && y.BitLen() <= 256 {
				l = append(l, y)
			}
		}
	}
	return l
}

func multiple(x *big.Int, n int64) *big.Int { return new(big.Int).Mul(x, big.NewInt(n)) }

func powerOf2(n int) *big.Int { return new(big.Int).Lsh(one, uint(n)) }

// points: the small ones; the base point and others of its order; each of these with small ones, whose orders are 2L, 4L and 8L; such as were found by their y.
func points(t testing.TB) []point.Point {
	t.Helper()
	l := smallPoints(t)
	for _, n := range []int64{1, 2, 3, 5, 8, 1000} {
		a := base.times(big.NewInt(n))
		l = append(l, a.point(), a.opposite().point())
		for _, small := range l[1:8] {
			l = append(l, a.plus(pairOf(small)).point())
		}
	}
	for _, y := range slices.Concat(around(12, big.NewInt(3)), some(20)) {
		if p, e := decoded(bytesOf(y)); e == api.OK {
			l = append(l, p)
		}
	}
	return l
}

// few: at most so many, spread over the whole list.
func few[T any](l []T, count int) []T {
	var spread []T
	for i := range count {
		spread = append(spread, l[i*len(l)/count])
	}
	return spread
}

// none: values that are no points, most of them near to one.
func none() []point.Point {
	l := []point.Point{{}, {X: bytesOf(one), Y: bytesOf(one)}, {X: bytesOf(one)}, {Y: bytesOf(two)}, {X: bytesOf(base.y), Y: bytesOf(base.x)}}
	for _, a := range []pair{identity, base, {zero, minus(zero, one)}, base.times(big.NewInt(7))} {
		for _, k := range []int64{1, 2} {
			lift := multiple(prime, k) // the same numbers modulo p
			for _, raised := range []pair{
				{new(big.Int).Add(a.x, lift), a.y},
				{a.x, new(big.Int).Add(a.y, lift)},
				{new(big.Int).Add(a.x, lift), new(big.Int).Add(a.y, lift)},
			} {
				if raised.x.BitLen() <= 256 && raised.y.BitLen() <= 256 {
					l = append(l, raised.point())
				}
			}
		}
		for bit := 0; bit < 256; bit += 15 { // 255 is the last
			l = append(l, pair{flipped(a.x, bit), a.y}.point(), pair{a.x, flipped(a.y, bit)}.point())
		}
	}
	return l
}

func flipped(x *big.Int, bit int) *big.Int {
	return new(big.Int).SetBit(x, bit, 1-x.Bit(bit))
}
