package point_test

import (
	"math/big"
	"slices"
	"testing"

	"ledger/api"
	"ledger/point"
)

func TestIdentityAndBase(t *testing.T) { // P4.1
	if got := point.Identity(); got != identity.point() {
		t.Errorf("Identity(): %x", got)
	}
	want := point.Point{
		X: digits(t, "1ad5258f602d56c9b2a7259560c72c695cdcd6fd31e2a4c0fe536ecdd3366921"),
		Y: digits(t, "5866666666666666666666666666666666666666666666666666666666666666"),
	}
	if got := point.Base(); got != want || got != base.point() {
		t.Errorf("Base(): %x", got)
	}
	if five := times(big.NewInt(5), numberOf(point.Base().Y)); five.Cmp(big.NewInt(4)) != 0 || point.Base().X[0]&1 != 0 {
		t.Errorf("Base(): five times its y is %v, its x begins with %x", five, point.Base().X[0])
	}
}

func TestOnOfPoints(t *testing.T) { // P4.2
	for _, p := range append(points(t), point.Identity(), point.Base()) {
		if !point.On(p) {
			t.Errorf("On(%x): false", p)
		}
	}
}

func TestOnOfOthers(t *testing.T) { // P4.2
	for _, p := range none() {
		if point.On(p) {
			t.Errorf("On(%x): true", p)
		}
	}
}

func TestOnOfPairsByTheEquation(t *testing.T) { // P4.2
	var l []*big.Int
	for x := range int64(40) {
		l = append(l, big.NewInt(x), new(big.Int).Sub(prime, big.NewInt(x+1)))
	}
	for _, x := range some(40) {
		l = append(l, mod(x))
	}
	for _, x := range l {
		for _, y := range l {
			a := pair{x, y}
			if got := point.On(a.point()); got != a.on() {
				t.Errorf("On(%v, %v): %v", x, y, got)
			}
		}
	}
}

// forms: about 0, p and 2^255 with both signs, all that stand above p, and others.
func forms() [][32]byte {
	var l [][32]byte
	for _, y := range slices.Concat(around(300, zero, prime, powerOf2(255)), some(300)) {
		y := new(big.Int).SetBit(y, 255, 0)
		l = append(l, bytesOf(y), bytesOf(new(big.Int).SetBit(y, 255, 1)))
	}
	for n := range 255 {
		l = append(l, bytesOf(powerOf2(n)), bytesOf(new(big.Int).SetBit(powerOf2(n), 255, 1)))
	}
	return l
}

func TestDecode(t *testing.T) { // P4.3
	met := map[api.Errno]int{}
	for _, b := range forms() {
		want, wantErr := decoded(b)
		got, e := point.Decode(b)
		if got != want || e != wantErr {
			t.Errorf("Decode(%x): %x, %d, want %x, %d", b, got, e, want, wantErr)
		}
		met[e]++
	}
	for _, e := range []api.Errno{api.OK, api.ErrHigh, api.ErrNoPoint, api.ErrSignBit} {
		if met[e] == 0 {
			t.Errorf("no form was met of which Decode answers %d", e)
		}
	}
}

func TestDecodeOfTheExamples(t *testing.T) { // P4.3
	for _, c := range []struct {
		form, x string
		e       api.Errno
	}{
		{form: smallForms[0], x: smallForms[2]},
		{form: "0100000000000000000000000000000000000000000000000000000000000080", e: api.ErrSignBit},
		{form: smallForms[2], x: "b0a00e4a271beec478e42fad0618432fa7d7fb3d99004d2b0bdfc14f8024832b"},
		{form: smallForms[3], x: "3d5ff1b5d8e4113b871bd052f9e7bcd0582804c266ffb2d4f4203eb07fdb7c54"},
		{form: "eeffffffffffffffffffffffffffffffffffffffffffffffffffffffffffff7f", e: api.ErrHigh},
		{form: "eeffffffffffffffffffffffffffffffffffffffffffffffffffffffffffffff", e: api.ErrHigh}, // ahead of ErrSignBit
		{form: "efffffffffffffffffffffffffffffffffffffffffffffffffffffffffffff7f", e: api.ErrHigh}, // ahead of ErrNoPoint
		{form: "edffffffffffffffffffffffffffffffffffffffffffffffffffffffffffff7f", e: api.ErrHigh},
		{form: "ffffffffffffffffffffffffffffffffffffffffffffffffffffffffffffffff", e: api.ErrHigh},
		{form: smallForms[1], x: smallForms[2]},
		{form: "ecffffffffffffffffffffffffffffffffffffffffffffffffffffffffffffff", e: api.ErrSignBit},
		{form: "0200000000000000000000000000000000000000000000000000000000000000", e: api.ErrNoPoint},
		{form: "0200000000000000000000000000000000000000000000000000000000000080", e: api.ErrNoPoint},
		{form: "0300000000000000000000000000000000000000000000000000000000000000", x: "e205ae011fe6f6fe07bc30dd4b960d1c3128efb158af48f48e601326d4bffe68"},
	} {
		var want point.Point
		if c.e == api.OK {
			want = point.Point{X: digits(t, c.x), Y: digits(t, c.form)}
			want.Y[31] &= 0x7f
		}
		if got, e := point.Decode(digits(t, c.form)); got != want || e != c.e {
			t.Errorf("Decode(%s): %x, %d, want %x, %d", c.form, got, e, want, c.e)
		}
	}
}

func TestEncode(t *testing.T) { // P4.4
	for _, p := range points(t) {
		if got, e := point.Encode(p); got != formOf(pairOf(p)) || e != api.OK {
			t.Errorf("Encode(%x): %x, %d", p, got, e)
		}
	}
}

func TestEncodeOfTheExamples(t *testing.T) { // P4.4
	for _, c := range []struct {
		p    point.Point
		form string
	}{
		{point.Identity(), smallForms[0]},
		{point.Base(), "5866666666666666666666666666666666666666666666666666666666666666"},
		{base.opposite().point(), "58666666666666666666666666666666666666666666666666666666666666e6"},
		{base.plus(base).point(), "c9a3f86aae465f0e56513864510f3997561fa2c9e85ea21dc2292309f3cd6022"},
	} {
		if got, e := point.Encode(c.p); got != digits(t, c.form) || e != api.OK {
			t.Errorf("Encode(%x): %x, %d, want %s", c.p, got, e, c.form)
		}
	}
}

func TestFormsAndPointsGoBothWays(t *testing.T) { // P4.3, P4.4
	for _, p := range points(t) {
		b, _ := point.Encode(p)
		if got, e := point.Decode(b); got != p || e != api.OK {
			t.Errorf("%x: its form gives %x, %d", p, got, e)
		}
	}
	for _, b := range forms() {
		p, e := point.Decode(b)
		if e != api.OK {
			continue
		}
		if got, e := point.Encode(p); got != b || e != api.OK || !point.On(p) {
			t.Errorf("%x: its point gives %x, %d", b, got, e)
		}
	}
}
