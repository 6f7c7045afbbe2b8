package edwards

import "buttress/field"

// sum is a point that others are added to. A step tells x and y as two quotients; T, which a doubling does not ask for, is left till it is asked for: it is the product of what stands above.
type sum struct {
	Point
	xTop, yTop field.Elem
}

// sumOf is a sum of p alone.
func sumOf(p Point) sum {
	return sum{Point: p, xTop: p.T, yTop: field.One()}
}

// become makes the sum the pair of these quotients.
func (s *sum) become(xTop, xUnder, yTop, yUnder field.Elem) {
	s.X = field.Mul(xTop, yUnder)
	s.Y = field.Mul(yTop, xUnder)
	s.Z = field.Mul(xUnder, yUnder)
	s.xTop, s.yTop = xTop, yTop
}

// point answers what the sum has come to.
func (s *sum) point() Point {
	s.T = field.Mul(s.xTop, s.yTop)
	return s.Point
}

// addend is a point made ready to be added, maybe often.
type addend struct {
	more, less     field.Elem // Y + X, Y - X
	twiceZ, twiceT field.Elem // the latter times the curve's number
}

func addendOf(p Point) addend {
	return addend{
		more:   field.Add(p.Y, p.X),
		less:   field.Sub(p.Y, p.X),
		twiceZ: field.Add(p.Z, p.Z),
		twiceT: field.Mul(d, field.Add(p.T, p.T)),
	}
}

// add adds another one, be it the same, the inverse, or Zero. Out of two products come the sums that the curve's law asks for above the lines, each twice: (Y + X)(Y' + X') is (Y Y' + X X') and (X Y' + Y X'), and (Y - X)(Y' - X') is the one less the other.
func (s *sum) add(q addend) {
	more := field.Mul(field.Add(s.Y, s.X), q.more)
	less := field.Mul(field.Sub(s.Y, s.X), q.less)
	z := field.Mul(s.Z, q.twiceZ)
	t := field.Mul(s.point().T, q.twiceT)
	s.become(field.Sub(more, less), field.Add(z, t), field.Add(more, less), field.Sub(z, t))
}

// double adds the sum to itself, so many times over. As the pair is one of the curve, 1 + d x x y y is y y - x x, and 1 - d x x y y is 2 less that.
func (s *sum) double(times int) {
	for range times {
		xx, yy, zz := field.Square(s.X), field.Square(s.Y), field.Square(s.Z)
		xy := field.Mul(s.X, s.Y)
		xUnder := field.Sub(yy, xx)
		s.become(field.Add(xy, xy), xUnder, field.Add(yy, xx), field.Sub(field.Add(zz, zz), xUnder))
	}
}
