package field_test

import (
	"slices"
	"sync"
	"testing"

	"ledger/field"
)

// answers: what every call says of two numbers.
type answers struct {
	canonical, equal, odd, square bool
	numbers                       [10][32]byte
	legendre                      int
}

func ask(a, b [32]byte) answers {
	root, square := field.SqrtRatio(a, b)
	batch := field.Batch([][32]byte{a, b})
	return answers{
		canonical: field.Canonical(a), equal: field.Equal(a, b), odd: field.Odd(a), square: square, legendre: field.Legendre(a),
		numbers: [10][32]byte{field.Reduce(a), field.Add(a, b), field.Sub(a, b), field.Neg(a), field.Mul(a, b), field.Square(a), field.Pow(a, b), field.Invert(a), root, batch[1]},
	}
}

func TestEveryAnswerIsCanonical(t *testing.T) { // P2.2, P2.5 to P2.10
	l := inputs()
	for i, a := range l {
		for place, x := range ask(a, l[len(l)-1-i]).numbers {
			if !field.Canonical(x) || numberOf(x).Cmp(prime) >= 0 {
				t.Errorf("%x: answer %d is %x", a, place, x)
			}
		}
	}
}

func TestNilAndEmpty(t *testing.T) { // P0.1, P2.12
	if got := field.Batch(nil); len(got) != 0 {
		t.Errorf("Batch of nil: %x", got)
	}
	if got := field.Batch([][32]byte{}); len(got) != 0 {
		t.Errorf("Batch of an empty list: %x", got)
	}
}

func TestBatchLeavesItsList(t *testing.T) { // P0.2, P2.9
	for _, n := range []int{0, 1, 5, 256, 257} {
		room := some(n + 20)
		if n > 2 {
			room[2] = [32]byte{}
		}
		before := slices.Clone(room)
		field.Batch(room[:n])
		if !slices.Equal(room, before) {
			t.Errorf("Batch of %d numbers changes its list or the room behind it", n)
		}
	}
}

func TestBatchAnswersNewMemory(t *testing.T) { // P0.2, P2.9
	for _, n := range []int{1, 5, 256} {
		l := some(n)
		first, second := field.Batch(l), field.Batch(l)
		want := slices.Clone(first)
		whole := first[:cap(first)]
		for i := range whole {
			whole[i] = [32]byte{1, 2, 3}
		}
		if !slices.Equal(l, some(n)) {
			t.Errorf("Batch of %d numbers answers memory of its list", n)
		}
		if !slices.Equal(second, want) || !slices.Equal(field.Batch(l), want) {
			t.Errorf("Batch of %d numbers shares memory with another answer", n)
		}
		for i := range l {
			l[i] = [32]byte{}
		}
		if !slices.Equal(second, want) {
			t.Errorf("Batch of %d numbers keeps its list", n)
		}
	}
}

func TestSameCallsSameAnswers(t *testing.T) { // P0.2, P2.12
	l := some(20)
	var want []answers
	for i, a := range l {
		want = append(want, ask(a, l[(i+1)%len(l)]))
	}
	var workers sync.WaitGroup
	for range 8 {
		workers.Go(func() {
			for i := len(l) - 1; i >= 0; i-- { // in another order, and beside one another
				if ask(l[i], l[(i+1)%len(l)]) != want[i] {
					t.Errorf("%x: another answer the second time", l[i])
				}
			}
		})
	}
	workers.Wait()
}
