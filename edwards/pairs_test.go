package edwards_test

import (
	"math/big"
	"math/rand"
	"slices"
	"testing"

	"buttress/edwards"
	"buttress/field"
)

// pair is a pair of the curve, reckoned with as the chapter's words say.
type pair struct{ x, y *big.Int }

var (
	p     = new(big.Int).Sub(power2(255), big.NewInt(19))
	order = new(big.Int).Add(power2(252), decimal("27742317777372353535851937790883648493"))
	d     = over(big.NewInt(-121665), big.NewInt(121666))
	zero  = pair{big.NewInt(0), big.NewInt(1)}
	base  = basePair()
)

func power2(k uint) *big.Int { return new(big.Int).Lsh(big.NewInt(1), k) }

func decimal(s string) *big.Int {
	n, _ := new(big.Int).SetString(s, 10)
	return n
}

func plus(n *big.Int, m int64) *big.Int { return new(big.Int).Add(n, big.NewInt(m)) }

func mod(n *big.Int) *big.Int { return new(big.Int).Mod(n, p) }

func times(ns ...*big.Int) *big.Int {
	out := big.NewInt(1)
	for _, n := range ns {
		out = mod(out.Mul(out, n))
	}
	return out
}

func over(a, b *big.Int) *big.Int { return times(a, new(big.Int).ModInverse(mod(b), p)) }

func minus(n *big.Int) *big.Int { return mod(new(big.Int).Neg(n)) }

func sum(a, b *big.Int) *big.Int { return mod(new(big.Int).Add(a, b)) }

// of answers the pair of y whose x is odd or not, if there is one.
func of(y *big.Int, odd bool) (pair, bool) {
	xx := over(plus(times(y, y), -1), plus(times(d, y, y), 1))
	x := new(big.Int).ModSqrt(xx, p)
	if x == nil || x.Sign() == 0 && odd {
		return pair{}, false
	}
	if (x.Bit(0) == 1) != odd {
		x = minus(x)
	}
	return pair{x, y}, true
}

func basePair() pair {
	b, _ := of(over(big.NewInt(4), big.NewInt(5)), false)
	return b
}

func (a pair) onCurve() bool {
	left := sum(times(a.y, a.y), minus(times(a.x, a.x)))
	right := mod(plus(times(d, a.x, a.x, a.y, a.y), 1))
	return left.Cmp(right) == 0
}

func (a pair) is(b pair) bool { return a.x.Cmp(b.x) == 0 && a.y.Cmp(b.y) == 0 }

func (a pair) neg() pair { return pair{minus(a.x), a.y} }

func (a pair) add(b pair) pair {
	cross := times(d, a.x, b.x, a.y, b.y)
	return pair{
		over(sum(times(a.x, b.y), times(b.x, a.y)), plus(cross, 1)),
		over(sum(times(a.y, b.y), times(a.x, b.x)), plus(minus(cross), 1)),
	}
}

func (a pair) mul(n *big.Int) pair {
	out := zero
	for i := n.BitLen() - 1; i >= 0; i-- {
		out = out.add(out)
		if n.Bit(i) == 1 {
			out = out.add(a)
		}
	}
	return out
}

func (a pair) String() string {
	if a.x == nil {
		return "none"
	}
	return a.x.Text(16) + ", " + a.y.Text(16)
}

// bytes are the pair's bytes.
func (a pair) bytes() []byte {
	b := raw(a.y)
	b[31] |= byte(a.x.Bit(0)) << 7
	return b
}

// raw is the 32 bytes of a number, the lowest first.
func raw(n *big.Int) []byte {
	b := n.FillBytes(make([]byte, 32))
	slices.Reverse(b)
	return b
}

// elem has the bits of a number below 2^256 in its limbs.
func elem(n *big.Int) field.Elem {
	var a field.Elem
	for i := range a {
		a[i] = new(big.Int).Rsh(n, uint(51*i)).Uint64() & (1<<51 - 1)
	}
	a[4] = new(big.Int).Rsh(n, 204).Uint64() & (1<<52 - 1)
	return a
}

func value(a field.Elem) *big.Int {
	n := new(big.Int)
	for i := range a {
		limb := new(big.Int).SetUint64(a[i])
		n.Add(n, limb.Lsh(limb, uint(51*i)))
	}
	return mod(n)
}

// point is the point of the pair that has this Z; its numbers are those from 0 to p - 1.
func (a pair) point(z *big.Int) edwards.Point {
	return edwards.Point{X: elem(times(a.x, z)), Y: elem(times(a.y, z)), Z: elem(mod(z)), T: elem(times(a.x, a.y, z))}
}

// other is another element of the same number: p more, or 2^51 in the limb below, where there is room for it.
func other(a field.Elem, r *rand.Rand) field.Elem {
	more := new(big.Int).Add(value(a), p)
	if r.Intn(2) == 0 && more.BitLen() <= 256 {
		a = elem(more)
	}
	for i := range 4 {
		if r.Intn(2) == 0 && a[i+1] > 0 && a[i] < 1<<51 {
			a[i+1]--
			a[i] += 1 << 51
		}
	}
	return a
}

// form is a right point of the pair: any Z, any elements.
func (a pair) form(r *rand.Rand) edwards.Point {
	z := plus(new(big.Int).Rand(r, plus(p, -1)), 1)
	if r.Intn(4) == 0 {
		z = big.NewInt(1)
	}
	q := a.point(z)
	return edwards.Point{X: other(q.X, r), Y: other(q.Y, r), Z: other(q.Z, r), T: other(q.T, r)}
}

// standsFor answers the pair of a point, if the point is right.
func standsFor(q edwards.Point) (pair, bool) {
	for _, e := range []field.Elem{q.X, q.Y, q.Z, q.T} {
		for _, limb := range e {
			if limb >= 1<<52 {
				return pair{}, false
			}
		}
	}
	z := value(q.Z)
	if z.Sign() == 0 {
		return pair{}, false
	}
	a := pair{over(value(q.X), z), over(value(q.Y), z)}
	return a, a.onCurve() && times(value(q.T), z).Cmp(times(value(q.X), value(q.Y))) == 0
}

// check holds a point against the pair which it must be a right point of.
func check(t *testing.T, what string, got edwards.Point, want pair, of ...any) {
	t.Helper()
	a, ok := standsFor(got)
	if !ok || !a.is(want) {
		t.Fatalf("%s of %v: %x, not %v", what, of, got, want)
	}
}

// small are the eight pairs that eight of come to Zero: those of order 1, 2, 4, 4, 8, 8, 8, 8.
func small() []pair {
	for y := int64(2); ; y++ {
		a, ok := of(big.NewInt(y), false)
		if !ok {
			continue
		}
		a = a.mul(order)
		if a.mul(big.NewInt(4)).is(zero) {
			continue
		}
		out := []pair{zero}
		for range 7 {
			out = append(out, out[len(out)-1].add(a))
		}
		return out
	}
}

// somePair is an ordinary one; as many of it as the order says are not Zero, for the most part.
func somePair(r *rand.Rand) pair {
	for {
		if a, ok := of(new(big.Int).Rand(r, p), r.Intn(2) == 0); ok {
			return a
		}
	}
}

// pairs are those of small order, such with the base, some multiples of the base, ordinary ones, and the inverses of all.
func pairs(r *rand.Rand, ordinary int) []pair {
	out := small()
	for _, a := range small() {
		out = append(out, a.add(base))
	}
	for n := int64(2); n < 6; n++ {
		out = append(out, base.mul(big.NewInt(n)))
	}
	for range ordinary {
		out = append(out, somePair(r))
	}
	for _, a := range out {
		out = append(out, a.neg())
	}
	return out
}

// counts are numbers below 2^256: about 0, the order and its multiples, powers of 2, and ordinary ones.
func counts(r *rand.Rand, ordinary int) []*big.Int {
	var out []*big.Int
	for n := range int64(20) {
		out = append(out, big.NewInt(n), plus(power2(256), -1-n))
	}
	for n := range int64(15) {
		for m := int64(-2); m <= 2; m++ {
			out = append(out, plus(new(big.Int).Mul(order, big.NewInt(n+1)), m))
		}
	}
	for _, k := range []uint{7, 8, 31, 32, 63, 64, 127, 128, 251, 252, 253, 254, 255} {
		out = append(out, plus(power2(k), -1), power2(k), plus(power2(k), 1))
	}
	for range ordinary {
		out = append(out, new(big.Int).Rand(r, power2(256)), new(big.Int).Rand(r, order))
	}
	return slices.DeleteFunc(out, func(n *big.Int) bool { return n.BitLen() > 256 })
}

// wrong are points that aren't right.
func wrong(r *rand.Rand) []edwards.Point {
	top := field.Elem{1<<64 - 1, 1<<64 - 1, 1<<64 - 1, 1<<64 - 1, 1<<64 - 1}
	out := []edwards.Point{{}, {X: top, Y: top, Z: top, T: top}, {Z: field.One()}, {X: field.One(), Y: field.One(), T: field.One()}}
	for range 20 {
		var q edwards.Point
		for _, e := range []*field.Elem{&q.X, &q.Y, &q.Z, &q.T} {
			for i := range e {
				e[i] = r.Uint64() >> r.Intn(64)
			}
		}
		out = append(out, q)
	}
	return out
}
