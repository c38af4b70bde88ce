package field

// powers: the way to x^(2^250-1). Its powers have exponents of 1, 2, 4, 5, 10, 20, 40, 50, 100, 200 and 250 bits, each of them a one. A row makes the next power: the last one, squared so many times, has as many zeros at its exponent's end, and the power at that place of the way has just so many ones to fill them.
var powers = [...]struct{ squarings, place int }{
	{1, 0}, {2, 1}, {1, 0}, {5, 3}, {10, 4}, {20, 5}, {10, 4}, {50, 7}, {100, 8}, {50, 7},
}

// longPower: x^(2^250-1), with which the exponents of inverses, roots and Legendre's symbol all begin.
func (x number) longPower() number {
	var reached [len(powers) + 1]number
	reached[0] = x
	for i, row := range powers {
		reached[i+1] = reached[i].squared(row.squarings).times(reached[row.place])
	}
	return reached[len(powers)]
}

// inverse: x^(p-2), where p - 2 is (2^250-1) 2^5 + 8 + 2 + 1.
func (x number) inverse() number {
	return x.longPower().squared(5).times(x.squared(3)).times(x.squared(1)).times(x)
}

// halfPower: x^((p-1)/2), where (p-1)/2 is (2^250-1) 2^4 + 4 + 2.
func (x number) halfPower() number {
	return x.longPower().squared(4).times(x.squared(2)).times(x.squared(1))
}

// rootPower: x^((p-5)/8), where (p-5)/8 is (2^250-1) 2^2 + 1.
func (x number) rootPower() number {
	return x.longPower().squared(2).times(x)
}

// rootOfRatio: an r with v r r = u, if there is one.
//
// The root of u/v to try, (u/v)^((p+3)/8), is u v^3 (u v^7)^((p-5)/8), which needs no inversion. Times v its square is u times a fourth root of 1: if that is 1, it is a root; if it is -1, it is one when multiplied by a root of -1; else u/v is no square. Where u or v is 0 the one to try is 0, which is a root exactly if u is 0.
func rootOfRatio(u, v number) (number, bool) {
	v3 := v.squared(1).times(v)
	v7 := v3.squared(1).times(v)
	r := u.times(v3).times(u.times(v7).rootPower())
	square := v.times(r.squared(1))
	switch {
	case square.equals(u):
		return r, true
	case square.equals(u.negated()):
		return r.times(rootOfMinusOne), true
	}
	return number{}, false
}

// power: x to the power of the number of e, bit by bit from the highest one.
func (x number) power(e [32]byte) number {
	result := one
	for i := len(e) - 1; i >= 0; i-- {
		for bit := 7; bit >= 0; bit-- {
			result = result.squared(1)
			if e[i]>>bit&1 == 1 {
				result = result.times(x)
			}
		}
	}
	return result
}
