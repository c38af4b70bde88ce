package point

import "ledger/field"

var (
	one = [32]byte{1}
	// d: -121665/121666, the number of the curve's equation.
	d = [32]byte{
		0xa3, 0x78, 0x59, 0x13, 0xca, 0x4d, 0xeb, 0x75, 0xab, 0xd8, 0x41, 0x41, 0x4d, 0x0a, 0x70, 0x00,
		0x98, 0xe8, 0x79, 0x77, 0x79, 0x40, 0xc7, 0x8c, 0x73, 0xfe, 0x6f, 0x2b, 0xee, 0x6c, 0x03, 0x52,
	}
)

// inner: the point with the coordinates X/z and Y/z, where z isn't 0. Sums of such points need no division; only telling one does.
type inner struct {
	Point
	z, t [32]byte // t is X Y/z, which the sum needs
}

func innerOf(p Point) inner {
	return inner{Point: p, z: one, t: field.Mul(p.X, p.Y)}
}

func (p inner) plain() Point {
	over := field.Invert(p.z)
	return Point{X: field.Mul(p.X, over), Y: field.Mul(p.Y, over)}
}

// identity: is it (0, 1)? The coordinates are canonical, as all that the field answers, so they are compared without dividing.
func (p inner) identity() bool { return p.Point == Point{Y: p.z} }

func (p inner) opposite() inner {
	return inner{Point: Point{X: field.Neg(p.X), Y: p.Y}, z: p.z, t: field.Neg(p.t)}
}

// quotients: the point (a/b, c/e), on one divisor.
func quotients(a, b, c, e [32]byte) inner {
	return inner{Point: Point{X: field.Mul(a, e), Y: field.Mul(c, b)}, z: field.Mul(b, e), t: field.Mul(a, c)}
}

// plus: the sum as it is defined, with both dividends and both divisors times z of p and z of q. It holds for all points, equal ones too.
func (p inner) plus(q inner) inner {
	xu, yv := field.Mul(p.X, q.X), field.Mul(p.Y, q.Y)
	upper := field.Add(xu, yv)
	cross := field.Sub(field.Mul(field.Add(p.X, p.Y), field.Add(q.X, q.Y)), upper) // x v + y u
	zz := field.Mul(p.z, q.z)
	rest := field.Mul(d, field.Mul(p.t, q.t))
	return quotients(cross, field.Add(zz, rest), upper, field.Sub(zz, rest))
}

// doubled: the sum with itself, in fewer steps: by the curve's equation the divisor 1 + d x x y y is y y - x x, and the other one is 2 less that.
func (p inner) doubled() inner {
	xx, yy, zz := field.Square(p.X), field.Square(p.Y), field.Square(p.z)
	upper := field.Add(xx, yy)
	cross := field.Sub(field.Square(field.Add(p.X, p.Y)), upper) // 2 x y
	divisor := field.Sub(yy, xx)
	return quotients(cross, divisor, upper, field.Sub(field.Add(zz, zz), divisor))
}
