package scalar_test

import (
	"slices"
	"sync"
	"testing"

	"ledger/scalar"
)

// answers: what every call says of two numbers.
type answers struct {
	canonical bool
	numbers   [8][32]byte
	digits    [257]int8
}

func ask(a, b [32]byte) answers {
	digits, _ := scalar.Digits(a, 5)
	value, _ := scalar.Value(digits)
	return answers{
		canonical: scalar.Canonical(a), digits: [257]int8(digits),
		numbers: [8][32]byte{scalar.Order(), scalar.Reduce([64]byte(slices.Concat(a[:], b[:]))), scalar.Add(a, b), scalar.Neg(a), scalar.MulAdd(a, b, a), scalar.Invert(a), value, scalar.Clamp(a)},
	}
}

func TestEveryAnswerIsBelowTheOrder(t *testing.T) { // P3.3 to P3.7, P3.10
	l := few(100)
	for i, a := range l {
		said := ask(a, l[len(l)-1-i]).numbers
		for place, x := range said[1:7] {
			if number(x).Cmp(order) >= 0 || !scalar.Canonical(x) {
				t.Errorf("%x: answer %d is %x", a, place+1, x)
			}
		}
	}
}

func TestValueLeavesItsDigits(t *testing.T) { // P3.11, P0.2
	for _, count := range []int{0, 1, 257, 300, 301} {
		room := someDigits(count + 50)
		before := slices.Clone(room)
		scalar.Value(room[:count])
		if !slices.Equal(room, before) {
			t.Errorf("Value of %d digits changes its list or the room behind it", count)
		}
	}
}

func TestDigitsAnswersNewMemory(t *testing.T) { // P3.11, P0.2
	for w := 2; w <= 8; w++ {
		for _, a := range few(10) {
			first, _ := scalar.Digits(a, w)
			second, _ := scalar.Digits(a, w)
			want := slices.Clone(first)
			whole := first[:cap(first)]
			for i := range whole {
				whole[i] = 77
			}
			third, _ := scalar.Digits(a, w)
			if !slices.Equal(second, want) || !slices.Equal(third, want) {
				t.Errorf("Digits(%x, %d) shares memory with another answer", a, w)
			}
		}
	}
}

func TestOrderStays(t *testing.T) { // P3.11, P0.2
	order := scalar.Order()
	order[0]++
	if scalar.Order() == order {
		t.Error("Order() answers what was changed")
	}
}

func TestSameCallsSameAnswers(t *testing.T) { // P3.11, P0.2
	l := few(20)
	var want []answers
	for i, a := range l {
		want = append(want, ask(a, l[(i+1)%len(l)]))
	}
	var workers sync.WaitGroup
	for range 8 {
		workers.Go(func() {
			for i := len(l) - 1; i >= 0; i-- { // in another order, and beside one another
				if ask(l[i], l[(i+1)%len(l)]) != want[i] {
					t.Errorf("%x: another answer the second time", l[i])
				}
			}
		})
	}
	workers.Wait()
}
