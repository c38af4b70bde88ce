package point

import "ledger/scalar"

// Digits of width 4 are 0 or odd, from -7 to 7, so a point's multiples of 1, 3, 5 and 7 serve for all of them.
const (
	width    = 4
	oddCount = 1 << (width - 2)
)

// baseMultiples: the base point's multiples of 1, 3, 5 and 7.
var baseMultiples = [oddCount]Point{}

func init() {
	for i, p := range oddMultiples(Base()) {
		baseMultiples[i] = p.plain()
	}
}

func oddMultiples(p Point) [oddCount]inner {
	var l [oddCount]inner
	next := innerOf(p)
	twice := next.doubled()
	for i := range l {
		l[i] = next
		next = next.plus(twice)
	}
	return l
}

// term: how many times, in digits of the powers of 2, and the multiples of a point that the digits choose from.
type term struct {
	digits []int8
	odd    [oddCount]inner
}

func termOf(n [32]byte, p Point) term {
	return term{digits: digitsOf(n), odd: oddMultiples(p)}
}

func baseTerm(n [32]byte) term {
	t := term{digits: digitsOf(n)}
	for i, p := range baseMultiples {
		t.odd[i] = innerOf(p)
	}
	return t
}

func digitsOf(n [32]byte) []int8 {
	digits, _ := scalar.Digits(n, width) // this width is never refused
	return digits
}

// part: digit times the point, for a digit that isn't 0.
func (t *term) part(digit int8) inner {
	if digit < 0 {
		return t.odd[-digit/2].opposite()
	}
	return t.odd[digit/2]
}

// sumOf: all terms, which share their doublings, from the highest power of 2 down.
func sumOf(terms ...term) Point {
	sum := innerOf(Identity())
	for i := len(terms[0].digits) - 1; i >= 0; i-- {
		sum = sum.doubled()
		for k := range terms {
			if digit := terms[k].digits[i]; digit != 0 {
				sum = sum.plus(terms[k].part(digit))
			}
		}
	}
	return sum.plain()
}
