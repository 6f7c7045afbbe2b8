package sign_test

import (
	"crypto/ed25519"
	"math/big"
	"math/rand"
	"slices"
	"strconv"
	"testing"

	"buttress/edwards"
	"buttress/sign"
)

// P5.2: keys and R with points of small order in them, or such alone, fit where the sum is what it must be, and not where eight of both sides are one; k counts modulo L.
func TestSmallOrder(t *testing.T) {
	r := rand.New(rand.NewSource(54))
	counts := []*big.Int{zero, big.NewInt(1), plus(order, -1), new(big.Int).Rand(r, order)}
	fit, unfit := 0, 0
	for i, smallA := range small() {
		for j, smallR := range small() {
			a, first := counts[r.Intn(len(counts))], counts[r.Intn(len(counts))]
			if (i+j)%3 == 0 {
				a, first = zero, zero
			}
			text := some(i + 8*j)
			public, sig := forge(a, first, smallA, smallR, text)
			want := fits(public, sig, text)
			if sign.Verify(public, sig, text) != want || ed25519.Verify(public, text, sig) != want {
				t.Fatalf("%x, %x, %x: %v", public, sig, text, !want)
			}
			if want {
				fit++
			} else {
				unfit++
			}
		}
	}
	if fit == 0 || unfit == 0 {
		t.Error(fit, unfit)
	}
}

// P5.2: under the key of Zero each text is signed by any S that R fits: 0 and L less 1 are such, L and what is above it are none.
func TestEdgesOfS(t *testing.T) {
	public := edwards.Put(edwards.Zero())
	for _, c := range []struct {
		s  *big.Int
		ok bool
	}{
		{zero, true},
		{big.NewInt(1), true},
		{power2(252), true},
		{plus(order, -2), true},
		{plus(order, -1), true},
		{order, false},
		{plus(order, 1), false},
		{power2(253), false},
		{power2(255), false},
		{new(big.Int).Mul(order, big.NewInt(2)), false},
		{new(big.Int).Mul(order, big.NewInt(15)), false},
		{plus(power2(256), -1), false},
	} {
		r := base(c.s)
		for n := range 3 {
			sig := slices.Concat(edwards.Put(r), raw(c.s))
			if !balance(edwards.Zero(), r, c.s, often(sig[:32], public, some(n))) {
				t.Fatalf("%x: the sum is another one", c.s)
			}
			if sign.Verify(public, sig, some(n)) != c.ok {
				t.Errorf("%x: %v", c.s, !c.ok)
			}
		}
	}
}

// P5.2: S of 0 fits where R is the inverse of k times A, too.
func TestNoS(t *testing.T) {
	all := small()
	for i, a := range all {
		public := edwards.Put(a)
		fit := 0
		for j, r := range all {
			for n := range 8 {
				text := some(n)
				sig := slices.Concat(edwards.Put(r), raw(zero))
				k := new(big.Int).Mod(often(sig[:32], public, text), big.NewInt(8)).Int64()
				want := (int64(j)+k*int64(i))%8 == 0
				if sign.Verify(public, sig, text) != want {
					t.Fatalf("%d, %d: %v", i, j, !want)
				}
				if want {
					fit++
				}
			}
		}
		if fit == 0 {
			t.Error(i, "never fits")
		}
	}
}

// other are bytes that are no point's, but would be p's if a y at the prime and above, and the sign of an x of 0, were let pass.
type other struct {
	bytes []byte
	p     edwards.Point
}

func others() []other {
	signed := func(n *big.Int) []byte {
		b := raw(n)
		b[31] |= 128
		return b
	}
	get := func(b []byte) edwards.Point {
		p, ok := edwards.Get(b)
		if !ok {
			panic("no point")
		}
		return p
	}
	minus := get(raw(plus(prime, -1))) // 0 and -1
	return []other{
		{signed(big.NewInt(1)), edwards.Zero()},
		{signed(plus(prime, -1)), minus},
		{raw(prime), get(raw(zero))},
		{signed(prime), get(signed(zero))},
		{raw(plus(prime, 1)), edwards.Zero()},
		{signed(plus(prime, 1)), edwards.Zero()},
	}
}

// P5.2: a key that is no point's bytes fits nothing, even where what it would stand for does.
func TestOtherKey(t *testing.T) {
	for _, o := range others() {
		fit := 0
		for n := range 24 {
			text := []byte("text " + strconv.Itoa(n))
			s := often(text)
			sig := slices.Concat(edwards.Put(base(s)), raw(s))
			if ed25519.Verify(o.bytes, text, sig) {
				fit++
			}
			if sign.Verify(o.bytes, sig, text) {
				t.Fatalf("%x, %x, %s", o.bytes, sig, text)
			}
		}
		if fit == 0 {
			t.Errorf("%x: nothing would have fitted", o.bytes)
		}
	}
}

// P5.2: an R that is no point's bytes neither.
func TestOtherR(t *testing.T) {
	for _, o := range others() {
		fit := 0
		for i, a := range small() {
			public := edwards.Put(a)
			for n := range 8 {
				sig := slices.Concat(o.bytes, raw(zero))
				text := some(8*i + n)
				if balance(a, o.p, zero, often(sig[:32], public, text)) {
					fit++
				}
				if sign.Verify(public, sig, text) {
					t.Fatalf("%x, %x, %x", public, sig, text)
				}
			}
		}
		if fit == 0 {
			t.Errorf("%x: nothing would have fitted", o.bytes)
		}
	}
}

// P5.2: bytes of no point, and of a y at the prime and above, in place of the key and of R.
func TestNoPoint(t *testing.T) {
	seed, text := some(32), some(9)
	public, sig := sign.Public(seed), sign.Sign(seed, text)
	var all [][]byte
	for n := range int64(40) {
		all = append(all, raw(big.NewInt(n)), raw(plus(prime, n-20)), raw(plus(power2(256), -1-n)))
	}
	for range 60 {
		all = append(all, some(32 + len(all))[:32])
	}
	none := 0
	for _, b := range all {
		if _, ok := edwards.Get(b); !ok {
			none++
		}
		if sign.Verify(b, sig, text) || sign.Verify(public, slices.Concat(b, sig[32:]), text) || sign.Verify(b, slices.Concat(b, b), text) {
			t.Errorf("%x", b)
		}
	}
	if none < 60 {
		t.Error(none)
	}
}
