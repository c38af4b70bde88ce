package point_test

import (
	"math/big"
	"slices"
	"testing"

	"ledger/api"
	"ledger/point"
)

// agrees: does a call answer OK and this point, both coordinates canonical?
func agrees(t *testing.T, got point.Point, e api.Errno, want pair, call string, arguments ...any) {
	t.Helper()
	if e != api.OK || got != want.point() {
		t.Errorf("%s of %x: %x, %d, want %x", call, arguments, got, e, want.point())
	}
}

func TestAdd(t *testing.T) { // P4.5
	l := points(t)
	for i, p := range l {
		others := append(few(l, 20), p, pairOf(p).opposite().point(), l[i/2])
		for _, q := range others {
			sum, e := point.Add(p, q)
			agrees(t, sum, e, pairOf(p).plus(pairOf(q)), "Add", p, q)
		}
	}
}

func TestSumsMakeAGroup(t *testing.T) { // P4.5
	add := func(p, q point.Point) point.Point {
		sum, _ := point.Add(p, q)
		return sum
	}
	l := few(points(t), 12)
	for i, p := range l {
		opposite, _ := point.Neg(p)
		if add(p, point.Identity()) != p || add(point.Identity(), p) != p || add(p, opposite) != point.Identity() {
			t.Errorf("%x with the identity and with its opposite", p)
		}
		for k, q := range l {
			r := l[(i+k)%len(l)]
			if add(p, q) != add(q, p) || add(add(p, q), r) != add(p, add(q, r)) {
				t.Errorf("%x, %x, %x in another order or grouping", p, q, r)
			}
		}
	}
}

func TestDoubleAndNeg(t *testing.T) { // P4.5
	for _, p := range points(t) {
		twice, e := point.Double(p)
		agrees(t, twice, e, pairOf(p).plus(pairOf(p)), "Double", p)
		opposite, e := point.Neg(p)
		agrees(t, opposite, e, pairOf(p).opposite(), "Neg", p)
	}
}

// counts: about 0, about the multiples of L and of p and the powers of 2, in rows of bits, and others.
func counts() []*big.Int {
	l := around(20, zero)
	for k := range int64(16) {
		l = append(l, around(1, multiple(order, k+1))...)
	}
	l = append(l, around(1, prime, multiple(prime, 2))...)
	for n := 1; n <= 256; n += 5 { // 256 is the last
		l = append(l, around(1, powerOf2(n))...)
	}
	for _, pattern := range []byte{0x55, 0xaa, 0x77, 0x88, 0x99, 0x0f, 0xf0, 0x69} {
		l = append(l, numberOf([32]byte(slices.Repeat([]byte{pattern}, 32))))
	}
	return append(l, some(40)...)
}

func TestMult(t *testing.T) { // P4.6
	l := points(t)
	for i, n := range counts() {
		for _, p := range []point.Point{l[i%8], l[i%len(l)]} {
			got, e := point.Mult(bytesOf(n), p)
			agrees(t, got, e, pairOf(p).times(n), "Mult", n, p)
		}
	}
}

func TestBaseMult(t *testing.T) { // P4.6
	for _, n := range counts() {
		agrees(t, point.BaseMult(bytesOf(n)), api.OK, base.times(n), "BaseMult", n)
	}
}

func TestManyTimesIsASumOfMany(t *testing.T) { // P4.6
	for _, p := range []point.Point{point.Base(), pointOf(t, smallForms[4]), points(t)[30]} {
		sum := identity
		for n := range 600 {
			count := bytesOf(big.NewInt(int64(n)))
			got, e := point.Mult(count, p)
			agrees(t, got, e, sum, "Mult", n, p)
			if p == point.Base() {
				agrees(t, point.BaseMult(count), api.OK, sum, "BaseMult", n)
			}
			sum = sum.plus(pairOf(p))
		}
	}
}

func TestMultiplesByTheExamples(t *testing.T) { // P4.6
	third := pointOf(t, "0300000000000000000000000000000000000000000000000000000000000000")
	all := [32]byte(slices.Repeat([]byte{0xff}, 32))
	five, _ := point.Mult([32]byte{5}, third)
	both, _ := point.Combine([32]byte{5}, third, [32]byte{7})
	for form, p := range map[string]point.Point{
		"d4b4f5784868c3020403246717ec169ff79e26608ea126a1ab69ee77d1b16712": point.BaseMult([32]byte{3}),
		smallForms[0]: point.BaseMult(bytesOf(order)),
		"db27fe4b7a4beb8c1b8c38a21e943a852304c9bb3035a5f36626b51162a68f9c": point.BaseMult(all),
		"6284ba02e02da5eda10433a18212ce3145d6992e7fe46930e23f1a6e96852195": five,
		"7b96ebc3838cd31d1072452cd6ce791a279331d7c25ed23ccb30b26bc97b742d": both,
	} {
		if got, e := point.Encode(p); got != digits(t, form) || e != api.OK {
			t.Errorf("%x, %d, want %s", got, e, form)
		}
	}
}

func TestCountsAreNotReduced(t *testing.T) { // P4.6
	p := base.plus(pairOf(pointOf(t, smallForms[4]))).point() // of order 8L
	for k := range int64(16) {
		got, e := point.Mult(bytesOf(multiple(order, k)), p)
		agrees(t, got, e, pairOf(pointOf(t, smallForms[4])).times(multiple(order, k)), "Mult", k, p)
		if k%8 != 0 && got == point.Identity() {
			t.Errorf("%d L times a point of order 8L: the identity", k)
		}
	}
}

func TestCombine(t *testing.T) { // P4.6
	l, n := points(t), counts()
	for i, count := range n {
		p, other := l[i%len(l)], n[(i*7+3)%len(n)]
		for _, c := range [][2]*big.Int{{count, other}, {count, zero}, {zero, count}} {
			got, e := point.Combine(bytesOf(c[0]), p, bytesOf(c[1]))
			agrees(t, got, e, pairOf(p).times(c[0]).plus(base.times(c[1])), "Combine", c[0], p, c[1])
		}
	}
}

func TestCombineOfTheBasePoint(t *testing.T) { // P4.6
	for _, count := range few(counts(), 40) {
		n := bytesOf(count)
		opposite, e := point.Combine(n, base.opposite().point(), n)
		agrees(t, opposite, e, identity, "Combine", count, "the base point's opposite")
		twice, e := point.Combine(n, point.Base(), n)
		agrees(t, twice, e, base.times(multiple(count, 2)), "Combine", count, "the base point")
	}
}

func TestSmall(t *testing.T) { // P4.7
	eight := smallPoints(t)
	for _, p := range eight {
		if small, e := point.Small(p); !small || e != api.OK {
			t.Errorf("Small(%x): %v, %d", p, small, e)
		}
	}
	for _, p := range points(t) {
		want := slices.Contains(eight, p)
		if small, e := point.Small(p); small != want || e != api.OK {
			t.Errorf("Small(%x): %v, %d, want %v", p, small, e, want)
		}
	}
}
