package field_test

import (
	"bytes"
	"math/big"
	"math/rand"
	"testing"

	"buttress/field"
)

// check holds an answer against the number that it must stand for.
func check(t *testing.T, what string, got field.Elem, want *big.Int, of ...field.Elem) {
	t.Helper()
	if !right(got) || value(got).Cmp(mod(want)) != 0 {
		t.Fatalf("%s of %x: %x, not %x", what, of, got, mod(want))
	}
}

// P2.1: One is a right element of 1.
func TestOne(t *testing.T) {
	check(t, "One", field.One(), big.NewInt(1))
}

// P2.1: numbers below p are got and put, all others are not.
func TestGet(t *testing.T) {
	for _, n := range numbers() {
		a, ok := field.Get(raw(n))
		if ok != (n.Cmp(p) < 0) {
			t.Fatalf("%x: %v", n, ok)
		}
		if !ok && a != (field.Elem{}) {
			t.Fatalf("%x: %x", n, a)
		}
		if ok {
			check(t, "Get", a, n)
			if !bytes.Equal(field.Put(a), raw(n)) {
				t.Fatalf("%x: put %x", n, field.Put(a))
			}
		}
	}
}

// P2.1: each byte counts, and stands in its place.
func TestGetBytes(t *testing.T) {
	for i := range 32 {
		for k := range 8 {
			b := make([]byte, 32)
			b[i] = 1 << k
			n := power2(uint(8*i + k))
			a, ok := field.Get(b)
			if ok != (n.Cmp(p) < 0) {
				t.Fatal(i, k, ok)
			}
			if ok {
				check(t, "Get", a, n)
			}
		}
	}
}

// P2.1: bytes of another length are none of a number.
func TestGetLength(t *testing.T) {
	for n := range 70 {
		a, ok := field.Get(make([]byte, n))
		if ok != (n == 32) || a != (field.Elem{}) {
			t.Error(n, ok)
		}
	}
	if _, ok := field.Get(nil); ok {
		t.Error("nil")
	}
	if _, ok := field.Get(append(raw(big.NewInt(7)), 0)); ok {
		t.Error("a byte 0 behind them")
	}
}

// P2.1: whatever right element of a number, its bytes are those of the number from 0 to p - 1.
func TestPut(t *testing.T) {
	for _, a := range elems() {
		if !bytes.Equal(field.Put(a), raw(value(a))) {
			t.Fatalf("%x: %x", a, field.Put(a))
		}
	}
	for _, n := range numbers() {
		for _, a := range forms(n) {
			if !bytes.Equal(field.Put(a), raw(mod(n))) {
				t.Fatalf("%x: %x", a, field.Put(a))
			}
		}
	}
}

// P2.2: sums, differences, products of all pairs of elements with limbs at their edges.
func TestPairs(t *testing.T) {
	n := new(big.Int)
	all := corners()
	for _, a := range all {
		for _, b := range all[:243] {
			check(t, "Add", field.Add(a, b), n.Add(value(a), value(b)), a, b)
			check(t, "Sub", field.Sub(a, b), n.Sub(value(a), value(b)), a, b)
			check(t, "Mul", field.Mul(a, b), n.Mul(value(a), value(b)), a, b)
		}
	}
}

// P2.2: the same of numbers about 0, p, 2 p and powers of 2.
func TestNumbers(t *testing.T) {
	n := new(big.Int)
	all := numbers()
	for _, x := range all {
		for _, y := range all {
			a, b := elem(x), elem(y)
			check(t, "Add", field.Add(a, b), n.Add(x, y), a, b)
			check(t, "Sub", field.Sub(a, b), n.Sub(x, y), a, b)
			check(t, "Mul", field.Mul(a, b), n.Mul(x, y), a, b)
		}
	}
}

// P2.2: a limb's bits each carry to where they belong.
func TestBits(t *testing.T) {
	for i := range 5 {
		for k := range 52 {
			for j := range 5 {
				var a, b field.Elem
				a[i], b[j] = 1<<k, 1<<51
				want := power2(uint(51*i + k + 51*j + 51))
				check(t, "Mul", field.Mul(a, b), want, a, b)
				check(t, "Mul", field.Mul(b, a), want, b, a)
			}
		}
	}
}

// P2.2: answers may be reckoned with again and again.
func TestChain(t *testing.T) {
	r := rand.New(rand.NewSource(22))
	a, n := someElem(r), new(big.Int)
	n.Set(value(a))
	for range 2000 {
		b := someElem(r)
		switch r.Intn(5) {
		case 0:
			a, n = field.Add(a, b), n.Add(n, value(b))
		case 1:
			a, n = field.Sub(b, a), n.Sub(value(b), n)
		case 2:
			a, n = field.Mul(a, b), n.Mul(n, value(b))
		case 3:
			a, n = field.Square(a), n.Mul(n, n)
		case 4:
			a, n = field.Neg(a), n.Neg(n)
		}
		n.Mod(n, p)
		check(t, "a chain", a, n)
	}
}

// P2.2: what is reckoned of one element.
func TestSingles(t *testing.T) {
	n := new(big.Int)
	for _, a := range elems() {
		check(t, "Neg", field.Neg(a), n.Neg(value(a)), a)
		check(t, "Square", field.Square(a), n.Mul(value(a), value(a)), a)
		if value(a).Sign() == 0 {
			check(t, "Invert", field.Invert(a), n.SetInt64(0), a)
		} else {
			check(t, "Invert", field.Invert(a), n.ModInverse(value(a), p), a)
		}
	}
}

// P2.3: elements of one number are the same, whatever their limbs; of two numbers they are not.
func TestSame(t *testing.T) {
	for _, n := range numbers() {
		all := forms(n)
		for _, a := range all {
			for _, b := range all {
				if !field.Same(a, b) {
					t.Fatalf("%x, %x", a, b)
				}
			}
			for _, m := range []int64{-1, 1, 2, 19} {
				if b := elem(mod(plus(n, m))); field.Same(a, b) || field.Same(b, a) {
					t.Fatalf("%x, %x", a, b)
				}
			}
		}
	}
	all := few(100)
	for _, a := range all {
		for _, b := range all {
			if field.Same(a, b) != (value(a).Cmp(value(b)) == 0) {
				t.Fatalf("%x, %x", a, b)
			}
		}
	}
	for k := range uint(255) {
		if field.Same(field.Elem{}, elem(power2(k))) {
			t.Error(k)
		}
	}
}

// P2.3: whether a number is 0, and whether it is odd, hangs on the one from 0 to p - 1.
func TestZeroOdd(t *testing.T) {
	all := elems()
	for _, n := range numbers() {
		all = append(all, forms(n)...)
	}
	for _, a := range all {
		n := value(a)
		if field.Zero(a) != (n.Sign() == 0) {
			t.Fatalf("Zero of %x", a)
		}
		if field.Odd(a) != (n.Bit(0) == 1) {
			t.Fatalf("Odd of %x", a)
		}
	}
}

// checkRoot says what Root of u and v must be: a square of the field is what Jacobi's symbol says.
func checkRoot(t *testing.T, u, v field.Elem) {
	t.Helper()
	r, ok := field.Root(u, v)
	x, y := value(u), value(v)
	want := x.Sign() == 0 || y.Sign() != 0 && big.Jacobi(mod(new(big.Int).Mul(x, y)), p) == 1
	if ok != want {
		t.Fatalf("%x, %x: %v", u, v, ok)
	}
	if !ok {
		if r != (field.Elem{}) {
			t.Fatalf("%x, %x: %x", u, v, r)
		}
		return
	}
	n := value(r)
	if !right(r) || n.Bit(0) == 1 || mod(new(big.Int).Mul(new(big.Int).Mul(n, n), y)).Cmp(x) != 0 || x.Sign() == 0 && n.Sign() != 0 {
		t.Fatalf("%x, %x: %x", u, v, r)
	}
}

// P2.4: roots of quotients, those that there are and those that there aren't.
func TestRoot(t *testing.T) {
	for _, u := range elems() {
		checkRoot(t, u, field.One())
		checkRoot(t, field.One(), u)
	}
	all := few(60)
	for _, u := range all {
		for _, v := range all {
			checkRoot(t, u, v)
		}
	}
}

// P2.4: squares, their opposites, and neither, of small numbers.
func TestSmallRoots(t *testing.T) {
	for u := range int64(20) {
		for v := range int64(20) {
			for _, sign := range []int64{1, -1} {
				checkRoot(t, elem(big.NewInt(u)), elem(mod(big.NewInt(sign*v))))
				checkRoot(t, elem(mod(big.NewInt(sign*u))), elem(big.NewInt(v)))
			}
		}
	}
}

// P2.4: what was squared has the root that is not odd: it, or its opposite.
func TestRootOfSquare(t *testing.T) {
	for _, a := range elems() {
		for _, v := range []field.Elem{field.One(), {2}, field.Neg(field.One()), {1<<52 - 1, 3, 1 << 51, 0, 1<<52 - 1}} {
			want := a
			if field.Odd(a) {
				want = field.Neg(a)
			}
			r, ok := field.Root(field.Mul(field.Square(a), v), v)
			if !ok || !right(r) || !field.Same(r, want) {
				t.Fatalf("%x: %v, %x", a, ok, r)
			}
		}
	}
}

// P2.4: nothing is the root of 0's quotient, and all of 0's by it are 0.
func TestRootOfZero(t *testing.T) {
	zeros := forms(big.NewInt(0))
	if len(zeros) < 2 {
		t.Fatal(zeros)
	}
	for _, zero := range zeros {
		for _, other := range zeros {
			checkRoot(t, zero, other)
		}
		for _, a := range few(20) {
			checkRoot(t, zero, a)
			checkRoot(t, a, zero)
		}
	}
}

// P2.5: what follows.
func TestLaws(t *testing.T) {
	all := few(25)
	for _, a := range all {
		if b, ok := field.Get(field.Put(a)); !ok || !field.Same(a, b) {
			t.Fatalf("put, got: %x", a)
		}
		if !field.Zero(a) && !field.Same(field.Mul(a, field.Invert(a)), field.One()) {
			t.Fatalf("inverted: %x", a)
		}
		for _, b := range all {
			if !field.Same(field.Add(a, b), field.Add(b, a)) || !field.Same(field.Mul(a, b), field.Mul(b, a)) {
				t.Fatalf("the order of %x, %x", a, b)
			}
			for _, c := range all {
				checkLaws(t, a, b, c)
			}
		}
	}
}

func checkLaws(t *testing.T, a, b, c field.Elem) {
	t.Helper()
	if !field.Same(field.Add(field.Add(a, b), c), field.Add(a, field.Add(b, c))) {
		t.Fatalf("sums of %x, %x, %x", a, b, c)
	}
	if !field.Same(field.Mul(field.Mul(a, b), c), field.Mul(a, field.Mul(b, c))) {
		t.Fatalf("products of %x, %x, %x", a, b, c)
	}
	if !field.Same(field.Mul(a, field.Add(b, c)), field.Add(field.Mul(a, b), field.Mul(a, c))) {
		t.Fatalf("products and sums of %x, %x, %x", a, b, c)
	}
	if !field.Same(field.Mul(a, field.Sub(b, c)), field.Sub(field.Mul(a, b), field.Mul(a, c))) {
		t.Fatalf("products and differences of %x, %x, %x", a, b, c)
	}
}

// R1: elements that are not right get some answer, the same each time.
func TestNotRight(t *testing.T) {
	var all []field.Elem
	top := ^uint64(0)
	for n := range 32 {
		var a, b field.Elem
		for i := range a {
			a[i] = top * uint64(n>>i&1)
			b[i] = 1<<52 + top>>1*uint64(n>>i&1)
		}
		all = append(all, a, b)
	}
	for _, a := range all {
		for _, b := range append(all, field.One(), field.Elem{}) {
			for range 2 {
				field.Add(a, b)
				field.Sub(a, b)
				field.Mul(a, b)
				field.Mul(b, a)
			}
			r, ok := field.Root(a, b)
			if again, same := field.Root(a, b); again != r || same != ok || !ok && r != (field.Elem{}) {
				t.Fatalf("Root of %x, %x", a, b)
			}
			if field.Same(a, b) != field.Same(a, b) {
				t.Fatalf("Same of %x, %x", a, b)
			}
		}
		if len(field.Put(a)) != 32 || field.Zero(a) != field.Zero(a) || field.Odd(a) != field.Odd(a) || field.Neg(a) != field.Neg(a) || field.Square(a) != field.Square(a) || field.Invert(a) != field.Invert(a) {
			t.Fatalf("%x", a)
		}
	}
}

// R3: bytes that are got are neither changed nor kept, bytes that are put are new memory.
func TestMemory(t *testing.T) {
	b := raw(plus(p, -5))
	a, _ := field.Get(b)
	if !bytes.Equal(b, raw(plus(p, -5))) {
		t.Error("an argument was changed")
	}
	clear(b)
	put := field.Put(a)
	clear(put)
	if !bytes.Equal(field.Put(a), raw(plus(p, -5))) {
		t.Error("memory is shared")
	}
}

// The chapter's examples.
func TestExamples(t *testing.T) {
	b := bytes.Repeat([]byte{0xff}, 32)
	b[0], b[31] = 0xec, 0x7f
	if !bytes.Equal(field.Put(field.Neg(field.One())), b) {
		t.Errorf("-1: %x", field.Put(field.Neg(field.One())))
	}
	b[0] = 0xed
	if _, ok := field.Get(b); ok {
		t.Error("p is got")
	}
	if r, ok := field.Root(field.Elem{4}, field.One()); !ok || !field.Same(r, field.Elem{2}) {
		t.Error("the root of 4")
	}
	if _, ok := field.Root(field.Elem{2}, field.One()); ok {
		t.Error("the root of 2")
	}
	if !field.Zero(field.Invert(field.Elem{})) {
		t.Error("0 inverted")
	}
}
