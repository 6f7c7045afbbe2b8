package edwards_test

import (
	"bytes"
	"crypto/ed25519"
	"crypto/sha512"
	"math/big"
	"math/rand"
	"slices"
	"testing"

	"buttress/edwards"
	"buttress/field"
)

// P4.1: Zero and Base stand for the pairs that the chapter names.
func TestZeroBase(t *testing.T) {
	check(t, "Zero", edwards.Zero(), pair{big.NewInt(0), big.NewInt(1)})
	check(t, "Base", edwards.Base(), base)
	if base.x.Bit(0) == 1 || times(base.y, big.NewInt(5)).Cmp(big.NewInt(4)) != 0 || !base.onCurve() {
		t.Errorf("%v", base)
	}
}

// P4.1: all forms of points of the curve are right.
func TestOn(t *testing.T) {
	r := rand.New(rand.NewSource(41))
	for _, a := range pairs(r, 30) {
		for range 4 {
			if q := a.form(r); !edwards.On(q) {
				t.Fatalf("%v: %v", a, q)
			}
		}
	}
	if !edwards.On(edwards.Zero()) || !edwards.On(edwards.Base()) {
		t.Error("Zero, Base")
	}
}

// P4.1: a point of the curve with one number changed is not right, unless what is changed plays no part.
func TestOnChanged(t *testing.T) {
	r := rand.New(rand.NewSource(411))
	for _, a := range pairs(r, 10) {
		q := a.form(r)
		for _, at := range []func(*edwards.Point) *field.Elem{
			func(q *edwards.Point) *field.Elem { return &q.X },
			func(q *edwards.Point) *field.Elem { return &q.Y },
			func(q *edwards.Point) *field.Elem { return &q.Z },
			func(q *edwards.Point) *field.Elem { return &q.T },
		} {
			for _, change := range []func(field.Elem) field.Elem{
				field.Neg,
				func(field.Elem) field.Elem { return field.Elem{} },
				func(field.Elem) field.Elem { return elem(p) },
				func(e field.Elem) field.Elem { return field.Add(e, field.One()) },
				func(e field.Elem) field.Elem { return field.Add(e, e) },
			} {
				c := q
				*at(&c) = change(*at(&c))
				if _, ok := standsFor(c); edwards.On(c) != ok {
					t.Fatalf("%x: %v", c, !ok)
				}
			}
		}
	}
}

// P4.1: pairs beside the curve, whose T fits them, are not right; nor is what has no Z.
func TestNotOn(t *testing.T) {
	r := rand.New(rand.NewSource(412))
	for range 50 {
		a := pair{new(big.Int).Rand(r, p), new(big.Int).Rand(r, p)}
		if edwards.On(a.form(r)) != a.onCurve() {
			t.Fatalf("%v", a)
		}
	}
	for _, a := range []pair{{big.NewInt(0), big.NewInt(0)}, {big.NewInt(1), big.NewInt(0)}, {big.NewInt(1), big.NewInt(1)}} {
		if edwards.On(a.form(r)) {
			t.Errorf("%v", a)
		}
	}
	for _, q := range []edwards.Point{{}, {Z: elem(p)}, {Y: field.One()}, {X: field.One()}, {T: field.One()}} {
		if edwards.On(q) {
			t.Errorf("%x", q)
		}
	}
}

// P4.1: limbs are right below 2^52, and not from there on, whatever they stand for.
func TestOnLimbs(t *testing.T) {
	a := somePair(rand.New(rand.NewSource(414)))
	one := big.NewInt(1)
	for at, factor := range []*big.Int{a.x, a.y, one, times(a.x, a.y)} {
		for i := range 5 {
			for _, limb := range []uint64{1, 1<<51 - 1, 1 << 51, 1<<52 - 1, 1 << 52, 1<<52 + 1, 1 << 63, 1<<64 - 1} {
				var e field.Elem
				e[i] = limb
				q := a.point(over(value(e), factor))
				*[]*field.Elem{&q.X, &q.Y, &q.Z, &q.T}[at] = e
				if edwards.On(q) != (limb < 1<<52) {
					t.Errorf("%x", q)
				}
			}
		}
	}
}

// P4.1: points of one pair are the same whatever their numbers; of two pairs they are not, even where x or y is one.
func TestSame(t *testing.T) {
	r := rand.New(rand.NewSource(413))
	all := pairs(r, 10)
	for _, a := range all {
		all = append(all, pair{a.x, minus(a.y)})
	}
	for _, a := range all {
		for _, b := range all {
			if edwards.Same(a.form(r), b.form(r)) != a.is(b) {
				t.Fatalf("%v, %v", a, b)
			}
		}
	}
}

// ys are numbers below 2^255: about 0, p, powers of 2, those of small pairs, and ordinary ones.
func ys(r *rand.Rand) []*big.Int {
	var out []*big.Int
	for n := range int64(100) {
		out = append(out, big.NewInt(n), plus(p, -1-n))
	}
	for n := range int64(19) {
		out = append(out, plus(p, n))
	}
	for k := range uint(255) {
		out = append(out, power2(k))
	}
	for _, a := range pairs(r, 10) {
		out = append(out, a.y)
	}
	for range 100 {
		out = append(out, new(big.Int).Rand(r, power2(255)))
	}
	return out
}

// P4.2: the bytes of all y, with the sign and without it: there is a point of y's pairs, and of no other ones.
func TestGet(t *testing.T) {
	r := rand.New(rand.NewSource(42))
	got := 0
	for _, y := range ys(r) {
		for _, odd := range []bool{false, true} {
			b := raw(y)
			if odd {
				b[31] |= 128
			}
			q, ok := edwards.Get(b)
			want := pair{}
			there := y.Cmp(p) < 0
			if there {
				want, there = of(y, odd)
			}
			if ok != there || !ok && q != (edwards.Point{}) {
				t.Fatalf("%x: %v %x", b, ok, q)
			}
			if ok {
				got++
				check(t, "Get", q, want, b)
			}
		}
	}
	if got < 300 {
		t.Error(got)
	}
}

// P4.2: x is 0 in two pairs: neither has bytes with the sign.
func TestGetNought(t *testing.T) {
	for _, y := range []*big.Int{big.NewInt(1), plus(p, -1)} {
		b := raw(y)
		q, ok := edwards.Get(b)
		if !ok {
			t.Fatal(y)
		}
		check(t, "Get", q, pair{big.NewInt(0), y}, b)
		b[31] |= 128
		if q, ok := edwards.Get(b); ok || q != (edwards.Point{}) {
			t.Errorf("%x: %v %x", b, ok, q)
		}
	}
}

// P4.2: bytes of another length are no point's.
func TestGetLength(t *testing.T) {
	for n := range 70 {
		b := make([]byte, n)
		copy(b, base.bytes())
		if q, ok := edwards.Get(b); ok != (n == 32) || !ok && q != (edwards.Point{}) {
			t.Error(n, ok)
		}
	}
	if q, ok := edwards.Get(nil); ok || q != (edwards.Point{}) {
		t.Error("nil")
	}
}

// P4.2: the bytes are those of y, with the sign of x, whatever the point's numbers.
func TestPut(t *testing.T) {
	r := rand.New(rand.NewSource(421))
	for _, a := range pairs(r, 30) {
		for range 3 {
			if q := a.form(r); !bytes.Equal(edwards.Put(q), a.bytes()) {
				t.Fatalf("%x: %x, not %x", q, edwards.Put(q), a.bytes())
			}
		}
	}
}

// P4.2: the chapter's examples.
func TestExamples(t *testing.T) {
	want := append([]byte{88}, bytes.Repeat([]byte{102}, 31)...)
	if got := edwards.Put(edwards.Base()); !bytes.Equal(got, want) {
		t.Errorf("%x", got)
	}
	b := make([]byte, 32)
	b[0] = 1
	q, ok := edwards.Get(b)
	if !ok {
		t.Error("1")
	}
	check(t, "Get", q, zero, b)
	b[31] = 128
	if _, ok := edwards.Get(b); ok {
		t.Error("1, with the sign")
	}
	check(t, "Add", edwards.Add(edwards.Base(), edwards.Neg(edwards.Base())), zero)
}

// P4.3: sums of all pairs: among them ordinary ones, Zero, those of small order, one and itself, one and its inverse.
func TestAdd(t *testing.T) {
	r := rand.New(rand.NewSource(43))
	all := pairs(r, 8)
	for _, a := range all {
		for _, b := range all {
			check(t, "Add", edwards.Add(a.form(r), b.form(r)), a.add(b), a, b)
		}
	}
}

// P4.3: sums of none, of one, of many.
func TestAddMany(t *testing.T) {
	check(t, "Add", edwards.Add(), zero)
	check(t, "Add", edwards.Add([]edwards.Point{}...), zero)
	r := rand.New(rand.NewSource(431))
	all := pairs(r, 8)
	for _, a := range all {
		check(t, "Add", edwards.Add(a.form(r)), a, a)
	}
	for n := range 30 {
		want := zero
		var points []edwards.Point
		for range n {
			a := all[r.Intn(len(all))]
			want = want.add(a)
			points = append(points, a.form(r))
		}
		check(t, "Add", edwards.Add(points...), want, points)
	}
}

// P4.3: twice a point, and its inverse.
func TestDoubleNeg(t *testing.T) {
	r := rand.New(rand.NewSource(432))
	for _, a := range pairs(r, 30) {
		check(t, "Double", edwards.Double(a.form(r)), a.add(a), a)
		check(t, "Neg", edwards.Neg(a.form(r)), a.neg(), a)
		q := a.form(r)
		check(t, "Add", edwards.Add(q, edwards.Neg(q)), zero, a)
		check(t, "Add", edwards.Add(q, q), a.add(a), a)
	}
}

// P4.3: answers may be reckoned with again and again.
func TestChain(t *testing.T) {
	r := rand.New(rand.NewSource(433))
	all := pairs(r, 5)
	q, a := edwards.Base(), base
	for range 500 {
		b := all[r.Intn(len(all))]
		switch r.Intn(4) {
		case 0:
			q, a = edwards.Add(q, b.form(r)), a.add(b)
		case 1:
			q, a = edwards.Add(b.form(r), q), b.add(a)
		case 2:
			q, a = edwards.Double(q), a.add(a)
		case 3:
			q, a = edwards.Neg(q), a.neg()
		}
		check(t, "a chain", q, a)
	}
}

// P4.4: all counts of the base, of a pair that is none of its multiples, and of small ones.
func TestMul(t *testing.T) {
	r := rand.New(rand.NewSource(44))
	for _, a := range append([]pair{base, somePair(r), base.add(small()[1]), small()[1].neg().add(somePair(r))}, small()...) {
		for _, n := range counts(r, 5) {
			check(t, "Mul", edwards.Mul(raw(n), a.form(r)), a.mul(n), n, a)
		}
	}
}

// P4.4: each bit counts, and stands in its place.
func TestMulBits(t *testing.T) {
	r := rand.New(rand.NewSource(441))
	a := somePair(r)
	want := a
	for k := range uint(256) {
		q := a.form(r)
		check(t, "Mul", edwards.Mul(raw(power2(k)), q), want, k)
		check(t, "Both", edwards.Both(raw(power2(k)), q, make([]byte, 32)), want, k)
		want = want.add(want)
	}
	want = base
	for k := range uint(256) {
		check(t, "Both", edwards.Both(make([]byte, 32), a.form(r), raw(power2(k))), want, k)
		want = want.add(want)
	}
}

// P4.4: of a number that has other than 32 bytes there is Zero.
func TestMulLength(t *testing.T) {
	r := rand.New(rand.NewSource(442))
	a, one := somePair(r), raw(big.NewInt(1))
	for n := range 70 {
		some := bytes.Repeat([]byte{1}, n)
		of, ofBase := zero, zero
		if n == 32 {
			of, ofBase = a.mul(number(some)), base.mul(number(some))
		}
		check(t, "Mul", edwards.Mul(some, a.form(r)), of, n)
		check(t, "Both", edwards.Both(some, a.form(r), one), of.add(base), n)
		check(t, "Both", edwards.Both(one, a.form(r), some), ofBase.add(a), n)
		check(t, "Both", edwards.Both(some, a.form(r), some), of.add(ofBase), n)
	}
	check(t, "Mul", edwards.Mul(nil, a.form(r)), zero)
	check(t, "Both", edwards.Both(nil, a.form(r), nil), zero)
	check(t, "Both", edwards.Both(nil, a.form(r), raw(order)), zero)
}

// number is that of the bytes, the lowest first.
func number(b []byte) *big.Int {
	b = slices.Clone(b)
	slices.Reverse(b)
	return new(big.Int).SetBytes(b)
}

// P4.4: the sum of two, also where they come to Zero, or are one.
func TestBoth(t *testing.T) {
	r := rand.New(rand.NewSource(443))
	all := counts(r, 10)
	for _, a := range append([]pair{base, base.neg(), base.add(base), zero, base.add(small()[1])}, somePair(r), small()[3]) {
		for range 30 {
			m, n := all[r.Intn(len(all))], all[r.Intn(len(all))]
			check(t, "Both", edwards.Both(raw(m), a.form(r), raw(n)), a.mul(m).add(base.mul(n)), m, a, n)
		}
		for n := range int64(8) {
			for m := range int64(8) {
				got := edwards.Both(raw(big.NewInt(m)), a.form(r), raw(big.NewInt(n)))
				check(t, "Both", got, a.mul(big.NewInt(m)).add(base.mul(big.NewInt(n))), m, a, n)
			}
		}
	}
}

// P4.4: another program's keys are such points.
func TestKeys(t *testing.T) {
	r := rand.New(rand.NewSource(444))
	for range 50 {
		seed := make([]byte, 32)
		r.Read(seed)
		secret := sha512.Sum512(seed)
		secret[0] &= 248
		secret[31] = secret[31]&127 | 64
		want := ed25519.NewKeyFromSeed(seed).Public().(ed25519.PublicKey)
		if got := edwards.Put(edwards.Mul(secret[:32], edwards.Base())); !bytes.Equal(got, want) {
			t.Fatalf("%x: %x, not %x", seed, got, want)
		}
	}
}

// P4.5: sums hang on no order and no grouping.
func TestOrderGrouping(t *testing.T) {
	r := rand.New(rand.NewSource(45))
	all := pairs(r, 10)
	for range 300 {
		a, b, c := all[r.Intn(len(all))].form(r), all[r.Intn(len(all))].form(r), all[r.Intn(len(all))].form(r)
		want := edwards.Put(edwards.Add(a, b, c))
		for _, got := range []edwards.Point{
			edwards.Add(c, b, a),
			edwards.Add(b, c, a),
			edwards.Add(a, edwards.Add(b, c)),
			edwards.Add(edwards.Add(a, b), c),
			edwards.Add(edwards.Add(c, a), b),
			edwards.Add(edwards.Zero(), a, edwards.Zero(), b, c, edwards.Zero()),
		} {
			if !bytes.Equal(edwards.Put(got), want) {
				t.Fatalf("%x, %x, %x", a, b, c)
			}
		}
	}
}

// P4.5: Put and Get undo each other.
func TestPutGet(t *testing.T) {
	r := rand.New(rand.NewSource(451))
	for _, a := range pairs(r, 30) {
		q := a.form(r)
		got, ok := edwards.Get(edwards.Put(q))
		if !ok || !edwards.Same(got, q) {
			t.Fatalf("%v", a)
		}
		if b := edwards.Put(got); !bytes.Equal(b, a.bytes()) {
			t.Fatalf("%v: %v", a, b)
		}
	}
}

// P4.5: as many base points as the order says are Zero, and no fewer; of other points eight times as many are.
func TestOrder(t *testing.T) {
	if !edwards.Same(edwards.Mul(raw(order), edwards.Base()), edwards.Zero()) {
		t.Error("the order")
	}
	if !edwards.Same(edwards.Mul(raw(plus(order, -1)), edwards.Base()), edwards.Neg(edwards.Base())) {
		t.Error("one less")
	}
	r := rand.New(rand.NewSource(452))
	eight := raw(new(big.Int).Mul(order, big.NewInt(8)))
	for _, a := range pairs(r, 10) {
		if !edwards.Same(edwards.Mul(eight, a.form(r)), edwards.Zero()) {
			t.Errorf("%v", a)
		}
	}
}

// R1: points that are not right end no call in a panic.
func TestWrong(t *testing.T) {
	r := rand.New(rand.NewSource(46))
	some := bytes.Repeat([]byte{0xa5}, 32)
	all := wrong(r)
	for _, q := range all {
		if edwards.On(q) {
			t.Errorf("%x", q)
		}
		if len(edwards.Put(q)) != 32 {
			t.Errorf("%x", q)
		}
		edwards.Double(q)
		edwards.Neg(q)
		edwards.Mul(some, q)
		edwards.Both(some, q, some)
		edwards.Add(q)
		for _, o := range append(all, edwards.Base()) {
			edwards.Same(q, o)
			edwards.Same(o, q)
			edwards.Add(q, o)
		}
	}
}

// R3, R4: no argument is changed, what is told is new memory, and told alike each time.
func TestMemory(t *testing.T) {
	r := rand.New(rand.NewSource(47))
	q := somePair(r).neg().form(r)
	b := edwards.Put(q)
	b[31] |= 128
	was := slices.Clone(b)
	edwards.Get(b)
	edwards.Mul(b, q)
	edwards.Both(b, q, b)
	if !bytes.Equal(b, was) {
		t.Error("bytes are changed")
	}
	points := []edwards.Point{q, edwards.Base(), edwards.Zero()}
	before := slices.Clone(points)
	sum := edwards.Add(points...)
	if !slices.Equal(points, before) {
		t.Error("points are changed")
	}
	if sum != edwards.Add(points...) || edwards.Mul(was, q) != edwards.Mul(was, q) || edwards.Both(was, q, was) != edwards.Both(was, q, was) {
		t.Error("told otherwise")
	}
	one, two := edwards.Put(q), edwards.Put(q)
	clear(one)
	if bytes.Equal(one, two) || !bytes.Equal(two, edwards.Put(q)) {
		t.Error("one memory")
	}
	c := edwards.Base()
	c.X[0]++
	if edwards.Base() == c {
		t.Error("the base is changed")
	}
}

func BenchmarkMul(b *testing.B) {
	some := bytes.Repeat([]byte{0x15}, 32)
	for b.Loop() {
		edwards.Mul(some, edwards.Base())
	}
}

func BenchmarkBoth(b *testing.B) {
	some := bytes.Repeat([]byte{0x15}, 32)
	for b.Loop() {
		edwards.Both(some, edwards.Base(), some)
	}
}

func BenchmarkGet(b *testing.B) {
	some := edwards.Put(edwards.Base())
	for b.Loop() {
		edwards.Get(some)
	}
}

func BenchmarkPut(b *testing.B) {
	for b.Loop() {
		edwards.Put(edwards.Base())
	}
}
