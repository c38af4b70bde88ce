package sign_test

import (
	"math/big"
	"slices"
	"strings"
	"testing"

	"ledger/api"
	"ledger/point"
	"ledger/scalar"
	"ledger/sign"
)

// verification: what is handed to Verify, and the answer that is asked for.
type verification struct {
	public    [32]byte
	message   []byte
	signature [64]byte
	want      api.Errno
}

func (v verification) try(t *testing.T, name string) {
	t.Helper()
	if e := sign.Verify(v.public, v.message, v.signature); e != v.want {
		t.Errorf("%s: Verify(%x, %q, %x): %d, want %d", name, v.public, v.message, v.signature, e, v.want)
	}
}

// value: of bytes with the low one first.
func value(b []byte) *big.Int {
	high := slices.Clone(b)
	slices.Reverse(high)
	return new(big.Int).SetBytes(high)
}

// fixed: the number's 32 bytes, low one first.
func fixed(n *big.Int) (b [32]byte) {
	n.FillBytes(b[:])
	slices.Reverse(b[:])
	return b
}

// orderTimes: n L, and a bit.
func orderTimes(n, plus int64) *big.Int {
	order := scalar.Order()
	product := new(big.Int).Mul(value(order[:]), big.NewInt(n))
	return product.Add(product, big.NewInt(plus))
}

// noForms: 32 bytes that point.Decode refuses, for each of its reasons.
func noForms(t *testing.T) map[string][32]byte {
	return map[string][32]byte{
		"no x":             number(t, "02"),
		"no x, sign":       {2, 31: 0x80},
		"y is p":           number(t, "ed"+strings.Repeat("ff", 30)+"7f"),
		"y is p + 1":       number(t, "ee"+strings.Repeat("ff", 30)+"7f"),
		"y is p + 3":       number(t, "f0"+strings.Repeat("ff", 30)+"7f"),
		"all bits":         number(t, strings.Repeat("ff", 32)),
		"x is 0, sign":     {1, 31: 0x80},
		"x is 0, sign, -1": number(t, "ec"+strings.Repeat("ff", 31)),
	}
}

// smallForms: those of the eight points of which eight times is the identity.
func smallForms(t *testing.T) [][32]byte {
	l := [][32]byte{number(t, "01"), {}, {31: 0x80}, number(t, "ec"+strings.Repeat("ff", 30)+"7f")}
	for _, y := range []string{"c7176a703d4dd84fba3c0b760d10670f2a2053fa2c39ccc64ec7fd7792ac037a", "26e8958fc2b227b045c3f489f2ef98f0d5dfac05d3c63339b13802886d53fc05"} {
		even, odd := number(t, y), number(t, y)
		odd[31] |= 0x80
		l = append(l, even, odd)
	}
	return l
}

// sum: of two points that are given by their forms.
func sum(t *testing.T, a, b [32]byte) [32]byte {
	t.Helper()
	p, e1 := point.Decode(a)
	q, e2 := point.Decode(b)
	r, e3 := point.Add(p, q)
	form, e4 := point.Encode(r)
	if e1 != 0 || e2 != 0 || e3 != 0 || e4 != 0 {
		t.Fatalf("a test's own points: %x, %x", a, b)
	}
	return form
}

// times: n times a point that is given by its form.
func times(t *testing.T, n, a [32]byte) [32]byte {
	t.Helper()
	p, e1 := point.Decode(a)
	r, e2 := point.Mult(n, p)
	form, e3 := point.Encode(r)
	if e1 != 0 || e2 != 0 || e3 != 0 {
		t.Fatalf("a test's own point: %x", a)
	}
	return form
}

// baseForm: of n times the base point.
func baseForm(t *testing.T, n [32]byte) [32]byte {
	t.Helper()
	return times(t, n, number(t, "58"+strings.Repeat("66", 31)))
}

// equation: does it hold, both sides reckoned as the document writes them?
func equation(t *testing.T, public [32]byte, message []byte, r, s [32]byte) bool {
	t.Helper()
	return baseForm(t, s) == sum(t, r, times(t, sign.Challenge(r, public, message), public))
}

func TestVerifyExamples(t *testing.T) { // P5.5, P5.6
	up := [32]byte(ascending(32))
	abc, abd, one, two := []byte("abc"), []byte("abd"), [32]byte{1}, [32]byte{2}
	right := sign.Sign(up, abc)
	raised := signatureOf([32]byte(right[:32]), fixed(new(big.Int).Add(value(right[32:]), orderTimes(1, 0))))
	for name, v := range map[string]verification{
		"right":               {sign.Public(up), abc, right, api.OK},
		"another message":     {sign.Public(up), abd, right, api.ErrEquation},
		"another key":         {sign.Public([32]byte{}), abc, right, api.ErrEquation},
		"L added":             {sign.Public(up), abc, raised, api.ErrScalar},
		"all wrong":           {two, abc, signatureOf(two, scalar.Order()), api.ErrScalar},
		"the key and R wrong": {two, abc, signatureOf(two, [32]byte{}), api.ErrKeyPoint},
		"R wrong":             {one, abc, signatureOf(two, [32]byte{}), api.ErrRPoint},
		"the identity":        {one, abc, signatureOf(one, [32]byte{}), api.OK},
		"y is p + 1":          {one, abc, signatureOf(noForms(t)["y is p + 1"], [32]byte{}), api.ErrRPoint},
		"S is 1":              {one, abc, signatureOf(one, one), api.ErrEquation},
	} {
		v.try(t, name)
	}
}

func TestVerifyIdentityTakesEveryMessage(t *testing.T) { // P5.5
	for _, message := range messages() {
		verification{[32]byte{1}, message, [64]byte{1}, api.OK}.try(t, "the identity")
	}
}

func TestVerifyScalarFirst(t *testing.T) { // P5.5
	right, other := [32]byte{1}, [32]byte{2}
	top := new(big.Int).Lsh(big.NewInt(1), 256)
	for _, s := range []*big.Int{orderTimes(1, 0), orderTimes(1, 1), orderTimes(2, -1), orderTimes(2, 0), orderTimes(8, 0), orderTimes(15, 5), top.Rsh(top, 1), new(big.Int).Lsh(big.NewInt(1), 253), orderTimes(15, 0)} {
		for _, public := range [][32]byte{right, other} {
			for _, r := range [][32]byte{right, other} {
				verification{public, nil, signatureOf(r, fixed(s)), api.ErrScalar}.try(t, "S high")
			}
		}
	}
	verification{right, nil, signatureOf(right, [32]byte([]byte(strings.Repeat("\xff", 32)))), api.ErrScalar}.try(t, "all bits of S")
	for _, s := range []*big.Int{orderTimes(1, -1), orderTimes(1, -2), new(big.Int).Lsh(big.NewInt(1), 252)} {
		verification{right, nil, signatureOf(right, fixed(s)), api.ErrEquation}.try(t, "S just below L")
		verification{right, nil, signatureOf(baseForm(t, fixed(s)), fixed(s)), api.OK}.try(t, "S just below L, R to it")
	}
}

func TestVerifyPoints(t *testing.T) { // P5.5
	seed, message := [32]byte{7}, []byte("text")
	public, signature := sign.Public(seed), sign.Sign(seed, message)
	r, s := [32]byte(signature[:32]), [32]byte(signature[32:])
	for name, form := range noForms(t) {
		verification{form, message, signature, api.ErrKeyPoint}.try(t, "key: "+name)
		verification{public, message, signatureOf(form, s), api.ErrRPoint}.try(t, "R: "+name)
		for _, other := range noForms(t) {
			verification{form, message, signatureOf(other, s), api.ErrKeyPoint}.try(t, "both: "+name)
			verification{form, message, signatureOf(other, scalar.Order()), api.ErrScalar}.try(t, "all: "+name)
		}
	}
	for _, form := range smallForms(t) {
		verification{form, message, signature, api.ErrEquation}.try(t, "small key")
		verification{public, message, signatureOf(form, s), api.ErrEquation}.try(t, "small R")
	}
	verification{r, message, signatureOf(public, s), api.ErrEquation}.try(t, "R for the key")
}

func TestVerifyTurnedBits(t *testing.T) { // P5.5
	seed, message := [32]byte{9}, []byte("every bit of this counts")
	public, signature := sign.Public(seed), sign.Sign(seed, message)
	for bit := range 512 {
		turned := signature
		turned[bit/8] ^= 1 << (bit % 8)
		if e := sign.Verify(public, message, turned); e == api.OK || e == api.ErrKeyPoint {
			t.Errorf("bit %d of the signature turned: %d", bit, e)
		}
	}
	for bit := range 256 {
		turned := public
		turned[bit/8] ^= 1 << (bit % 8)
		if e := sign.Verify(turned, message, signature); e != api.ErrKeyPoint && e != api.ErrEquation {
			t.Errorf("bit %d of the key turned: %d", bit, e)
		}
	}
	for bit := range 8 * len(message) {
		turned := slices.Clone(message)
		turned[bit/8] ^= 1 << (bit % 8)
		verification{public, turned, signature, api.ErrEquation}.try(t, "the message turned")
	}
	verification{public, message[:len(message)-1], signature, api.ErrEquation}.try(t, "the message cut")
	verification{public, message[1:], signature, api.ErrEquation}.try(t, "the message cut ahead")
	verification{public, append(slices.Clone(message), 0), signature, api.ErrEquation}.try(t, "the message longer")
}

func TestVerifySmallOrder(t *testing.T) { // P5.5
	held := 0
	for _, public := range smallForms(t) {
		for _, small := range smallForms(t) {
			for i, s := range [][32]byte{{}, {5}, fixed(orderTimes(1, -1))} {
				r := sum(t, small, baseForm(t, s))
				for n := range 4 {
					message := []byte{byte(i), byte(n)}
					want := api.ErrEquation
					if equation(t, public, message, r, s) {
						want = api.OK
						held++
					}
					verification{public, message, signatureOf(r, s), want}.try(t, "small order")
				}
			}
		}
	}
	if held == 0 {
		t.Error("no equation of small points held: nothing was tried")
	}
}

// skewed: a signature whose key and R are off by small points; with the cofactor it would always be taken.
func skewed(t *testing.T, message []byte, keyOff, rOff [32]byte) (public, r, s [32]byte) {
	a, nonce := [32]byte{31, 3: 7}, [32]byte{77, 9: 1}
	public, r = sum(t, baseForm(t, a), keyOff), sum(t, baseForm(t, nonce), rOff)
	return public, r, scalar.MulAdd(sign.Challenge(r, public, message), a, nonce)
}

func TestVerifyWithoutCofactor(t *testing.T) { // P5.5
	identity := [32]byte{1}
	held, failed := 0, 0
	for _, off := range smallForms(t) {
		for n := range 24 {
			message := []byte{byte(n)}
			public, r, s := skewed(t, message, off, identity)
			want := api.ErrEquation
			if times(t, sign.Challenge(r, public, message), off) == identity {
				want = api.OK
				held++
			} else {
				failed++
			}
			verification{public, message, signatureOf(r, s), want}.try(t, "key off")
		}
		public, r, s := skewed(t, nil, identity, off)
		want := api.ErrEquation
		if off == identity {
			want = api.OK
		}
		verification{public, nil, signatureOf(r, s), want}.try(t, "R off")
	}
	if held <= 24 || failed == 0 {
		t.Errorf("%d equations held and %d failed: not all was tried", held, failed)
	}
}
