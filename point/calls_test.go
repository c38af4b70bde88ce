package point_test

import (
	"sync"
	"testing"

	"ledger/api"
	"ledger/point"
)

// answers: what every call says of a number, two points and a form.
type answers struct {
	on, small bool
	form      [32]byte
	points    [9]point.Point
	errors    [8]api.Errno
}

func ask(n [32]byte, p, q point.Point) answers {
	a := answers{on: point.On(p)}
	a.form, a.errors[0] = point.Encode(p)
	a.points[0], a.errors[1] = point.Add(p, q)
	a.points[1], a.errors[2] = point.Add(q, p)
	a.points[2], a.errors[3] = point.Neg(p)
	a.points[3], a.errors[4] = point.Double(p)
	a.points[4], a.errors[5] = point.Mult(n, p)
	a.points[5], a.errors[6] = point.Combine(n, p, n)
	a.small, a.errors[7] = point.Small(p)
	a.points[6], a.points[7], a.points[8] = point.BaseMult(n), point.Identity(), point.Base()
	return a
}

func TestNoPointIsRefused(t *testing.T) { // P4.2, P4.4 to P4.7, P0.1
	l := none()
	for i, p := range l {
		for _, n := range [][32]byte{{}, {1}, {31: 0xff}} {
			want := answers{points: [9]point.Point{6: point.BaseMult(n), 7: point.Identity(), 8: point.Base()}}
			for k := range want.errors {
				want.errors[k] = api.ErrOff
			}
			for _, other := range []point.Point{point.Base(), point.Identity(), l[(i+5)%len(l)]} {
				if got := ask(n, p, other); got != want {
					t.Errorf("%x times %x, with %x: %+v", n, p, other, got)
				}
			}
		}
	}
}

func TestZeroPointIsNone(t *testing.T) { // P4.6, P0.1
	if got, e := point.Mult([32]byte{}, point.Point{}); got != (point.Point{}) || e != api.ErrOff {
		t.Errorf("0 times the zero value: %x, %d", got, e)
	}
	if got, e := point.Combine([32]byte{}, point.Point{}, [32]byte{1}); got != (point.Point{}) || e != api.ErrOff {
		t.Errorf("Combine with 0 times the zero value: %x, %d", got, e)
	}
}

func TestAnsweredPointsArePoints(t *testing.T) { // P4.4 to P4.6
	l := few(points(t), 30)
	for i, n := range few(counts(), 30) {
		a := ask(bytesOf(n), l[i], l[len(l)-1-i])
		if a.errors != [8]api.Errno{} {
			t.Errorf("%x times %x: %v", n, l[i], a.errors)
		}
		for place, p := range a.points {
			if !pairOf(p).on() || numberOf(p.X).Cmp(prime) >= 0 || numberOf(p.Y).Cmp(prime) >= 0 || !point.On(p) {
				t.Errorf("%x times %x: answer %d is %x", n, l[i], place, p)
			}
		}
	}
}

func TestConstantsStay(t *testing.T) { // P4.1, P0.2
	for _, call := range []func() point.Point{point.Identity, point.Base} {
		p := call()
		before := p
		p.X[0]++
		p.Y[31]++
		if call() != before {
			t.Errorf("%x: answered anew otherwise", before)
		}
	}
}

func TestSameCallsSameAnswers(t *testing.T) { // P0.2
	l, n := few(points(t), 12), few(counts(), 12)
	var want []answers
	for i, p := range l {
		want = append(want, ask(bytesOf(n[i]), p, l[(i+1)%len(l)]))
	}
	var workers sync.WaitGroup
	for range 8 {
		workers.Go(func() {
			for i := len(l) - 1; i >= 0; i-- { // in another order, and beside one another
				if ask(bytesOf(n[i]), l[i], l[(i+1)%len(l)]) != want[i] {
					t.Errorf("%x: another answer the second time", l[i])
				}
			}
		})
	}
	workers.Wait()
}
