package sign_test

import (
	"bytes"
	"slices"
	"sync"
	"testing"

	"ledger/api"
	"ledger/sign"
)

// bundle: what is handed to VerifyAll, and the answers that are asked for.
type bundle struct {
	publics    [][32]byte
	messages   [][]byte
	signatures [][64]byte
	want       []api.Errno
}

func (b *bundle) add(public [32]byte, message []byte, signature [64]byte, want api.Errno) {
	b.publics = append(b.publics, public)
	b.messages = append(b.messages, message)
	b.signatures = append(b.signatures, signature)
	b.want = append(b.want, want)
}

func (b *bundle) copied() bundle {
	c := bundle{slices.Clone(b.publics), nil, slices.Clone(b.signatures), slices.Clone(b.want)}
	for _, m := range b.messages {
		c.messages = append(c.messages, slices.Clone(m))
	}
	return c
}

func (b *bundle) first(n int) bundle {
	return bundle{b.publics[:n], b.messages[:n], b.signatures[:n], b.want[:n]}
}

func (b *bundle) try(t *testing.T, name string) []api.Errno {
	t.Helper()
	got, e := sign.VerifyAll(b.publics, b.messages, b.signatures)
	if e != api.OK || !slices.Equal(got, b.want) {
		t.Errorf("%s: VerifyAll: %d, %d, want %d", name, got, e, b.want)
	}
	return got
}

// mixed: items of every answer, beside one another in an order without a period that a power of two shares.
func mixed(t *testing.T, n int) (b bundle) {
	for i := range n {
		seed, message := [32]byte{byte(i)}, bytes.Repeat([]byte{byte(i)}, i*3)
		public, signature := sign.Public(seed), sign.Sign(seed, message)
		want := []api.Errno{api.ErrEquation, api.OK, api.ErrScalar, api.ErrKeyPoint, api.ErrRPoint}[i%5]
		switch want {
		case api.ErrEquation:
			message = append(message, 1)
		case api.ErrScalar:
			signature[63] |= 0x80
		case api.ErrKeyPoint:
			public = [32]byte{2}
		case api.ErrRPoint:
			signature = signatureOf([32]byte{2}, [32]byte(signature[32:]))
		}
		b.add(public, message, signature, want)
	}
	return b
}

func TestVerifyAllInTheirOrder(t *testing.T) { // P5.7
	whole := mixed(t, 64)
	for _, n := range []int{0, 1, 2, 3, 5, 8, 31, 63, 64} {
		part := whole.first(n)
		part.try(t, "the first of them")
	}
	turned := whole.copied()
	slices.Reverse(turned.publics)
	slices.Reverse(turned.messages)
	slices.Reverse(turned.signatures)
	slices.Reverse(turned.want)
	turned.try(t, "the other way round")
}

func TestVerifyAllIsVerifyOfEach(t *testing.T) { // P5.7
	b := mixed(t, 11)
	got, e := sign.VerifyAll(b.publics, b.messages, b.signatures)
	if e != api.OK || len(got) != len(b.want) {
		t.Fatalf("VerifyAll: %d answers, %d", len(got), e)
	}
	for i := range got {
		if want := sign.Verify(b.publics[i], b.messages[i], b.signatures[i]); got[i] != want {
			t.Errorf("at %d: %d, want %d", i, got[i], want)
		}
	}
}

func TestVerifyAllLengths(t *testing.T) { // P5.7, P0.1
	for _, c := range []struct {
		publics, messages, signatures int
		want                          api.Errno
	}{
		{0, 0, 0, api.OK},
		{2, 1, 2, api.ErrCount}, {1, 2, 2, api.ErrCount}, {2, 2, 1, api.ErrCount}, {1, 2, 3, api.ErrCount},
		{1, 0, 0, api.ErrCount}, {0, 1, 0, api.ErrCount}, {0, 0, 1, api.ErrCount}, {0, 1, 1, api.ErrCount}, {1, 0, 1, api.ErrCount}, {1, 1, 0, api.ErrCount},
		{64, 65, 65, api.ErrCount}, {65, 64, 65, api.ErrCount}, {65, 65, 64, api.ErrCount}, {65, 66, 67, api.ErrCount}, {1000, 999, 1000, api.ErrCount},
		{65, 65, 65, api.ErrLong}, {66, 66, 66, api.ErrLong}, {128, 128, 128, api.ErrLong}, {1 << 20, 1 << 20, 1 << 20, api.ErrLong},
	} {
		l, e := sign.VerifyAll(make([][32]byte, c.publics), make([][]byte, c.messages), make([][64]byte, c.signatures))
		if e != c.want || len(l) != 0 {
			t.Errorf("VerifyAll of %d, %d and %d: %d answers, %d, want %d", c.publics, c.messages, c.signatures, len(l), e, c.want)
		}
	}
	l, e := sign.VerifyAll(make([][32]byte, 64), make([][]byte, 64), make([][64]byte, 64))
	if e != api.OK || len(l) != 64 {
		t.Errorf("VerifyAll of 64: %d answers, %d", len(l), e)
	}
}

func TestNilIsEmpty(t *testing.T) { // P5.7, P0.1
	for _, c := range []bundle{{}, {publics: [][32]byte{}}, {messages: [][]byte{}}, {signatures: [][64]byte{}}, {publics: [][32]byte{}, messages: [][]byte{}, signatures: [][64]byte{}}} {
		c.try(t, "no items")
	}
	seed := [32]byte{3}
	public, r := sign.Public(seed), [32]byte{8}
	if sign.Sign(seed, nil) != sign.Sign(seed, []byte{}) || sign.Challenge(r, public, nil) != sign.Challenge(r, public, []byte{}) {
		t.Error("nil and an empty message are signed unlike")
	}
	verification{public, nil, sign.Sign(seed, []byte{}), api.OK}.try(t, "nil")
	verification{public, []byte{}, sign.Sign(seed, nil), api.OK}.try(t, "empty")
	var b bundle
	b.add(public, nil, sign.Sign(seed, []byte{}), api.OK)
	b.add(public, []byte{}, sign.Sign(seed, nil), api.OK)
	b.try(t, "nil among them")
}

func TestMessageIsNotChanged(t *testing.T) { // P5.8, P0.2
	seed := [32]byte{5}
	room := ascending(300)
	for _, n := range []int{0, 1, 64, 200} {
		message := room[50 : 50+n] // with room behind it, which an append would fill
		signature := sign.Sign(seed, message)
		sign.Challenge(seed, seed, message)
		sign.Verify(sign.Public(seed), message, signature)
		if _, e := sign.VerifyAll([][32]byte{seed}, [][]byte{message}, [][64]byte{signature}); e != api.OK {
			t.Errorf("VerifyAll: %d", e)
		}
		if !bytes.Equal(room, ascending(300)) {
			t.Fatalf("%d bytes: the message or the room behind it is changed", n)
		}
	}
}

func TestListsAreNotChangedOrKept(t *testing.T) { // P5.8, P0.2
	whole := mixed(t, 20)
	before := whole.copied()
	part := whole.first(15)
	first := part.try(t, "the first time")
	same := slices.Equal(whole.publics, before.publics) && slices.Equal(whole.signatures, before.signatures)
	if !same || !slices.EqualFunc(whole.messages, before.messages, bytes.Equal) {
		t.Fatal("a list, or the room behind it, is changed")
	}
	second := part.try(t, "the second time")
	for i := range first[:cap(first)] {
		first[:cap(first)][i] = -1
	}
	if !slices.Equal(second, part.want) {
		t.Error("two answers share memory")
	}
	part.try(t, "behind a change of an answer")
	for i := range whole.publics {
		whole.publics[i], whole.signatures[i] = [32]byte{}, [64]byte{}
		clear(whole.messages[i])
	}
	if !slices.Equal(second, part.want) {
		t.Error("an answer shares memory with an argument")
	}
	before.try(t, "behind a change of the arguments")
}

// answers: what every call says of a seed and a message.
type answers struct {
	scalar, prefix, public, challenge [32]byte
	signature                         [64]byte
	right, wrong                      api.Errno
}

func ask(seed [32]byte, message []byte) (a answers) {
	a.scalar, a.prefix = sign.Expand(seed)
	a.public = sign.Public(seed)
	a.signature = sign.Sign(seed, message)
	a.challenge = sign.Challenge(seed, a.public, message)
	a.right = sign.Verify(a.public, message, a.signature)
	a.wrong = sign.Verify(a.public, append(slices.Clone(message), 0), a.signature)
	return a
}

func TestSameCallsSameAnswers(t *testing.T) { // P5.4, P5.8, P0.2
	l, m := seeds()[:8], messages()[4:12]
	var want []answers
	for i := range l {
		want = append(want, ask(l[i], m[i]))
	}
	all := mixed(t, 9)
	var workers sync.WaitGroup
	for range 4 {
		workers.Go(func() {
			for i := len(l) - 1; i >= 0; i-- { // in another order, and beside one another
				if got := ask(l[i], m[i]); got != want[i] {
					t.Errorf("%x, %q: %+v, earlier %+v", l[i], m[i], got, want[i])
				}
			}
			all.try(t, "beside one another")
		})
	}
	workers.Wait()
}

func TestAllArgumentsAreAnswered(t *testing.T) { // P5.8, P0.1
	high := [32]byte(bytes.Repeat([]byte{0xff}, 32))
	for _, public := range [][32]byte{{}, {1}, high} {
		for _, half := range [][32]byte{{}, {1}, high} {
			for _, message := range [][]byte{nil, {}, {0}, make([]byte, 100000)} {
				sign.Sign(public, message)
				sign.Challenge(half, public, message)
				e := sign.Verify(public, message, signatureOf(half, half))
				if known := []api.Errno{api.OK, api.ErrScalar, api.ErrKeyPoint, api.ErrRPoint, api.ErrEquation}; !slices.Contains(known, e) {
					t.Errorf("Verify(%x, %d bytes, %x twice): %d", public, len(message), half, e)
				}
			}
		}
	}
}
