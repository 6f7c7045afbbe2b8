package field

import "math/bits"

// pair is two factors.
type pair struct{ a, b uint64 }

// wide is a number of 128 bits.
type wide struct{ high, low uint64 }

// add adds a times b.
func (w *wide) add(a, b uint64) {
	high, low := bits.Mul64(a, b)
	var over uint64
	w.low, over = bits.Add64(w.low, low, 0)
	w.high += high + over
}

// sum is a sum of products.
type sum struct{ wide }

// sumUp adds up the products of the pairs.
func sumUp(pairs ...pair) sum {
	var s sum
	for _, p := range pairs {
		s.add(p.a, p.b)
	}
	return s
}

// limb is what the sum has in its lowest 51 bits.
func (s sum) limb() uint64 {
	return s.low & limbMask
}

// rest is what the sum has above a limb: below 2^64, as sums of right elements' products are below 2^111.
func (s sum) rest() uint64 {
	return s.high<<(64-limbBits) | s.low>>limbBits
}

// join makes an element of sums, one for each limb. None overflows: the last sum, that has no folded product, is below 2^107, so that its rest is folded within 61 bits.
func join(s [5]sum) Elem {
	return carry(Elem{
		s[0].limb() + fold*s[4].rest(),
		s[1].limb() + s[0].rest(),
		s[2].limb() + s[1].rest(),
		s[3].limb() + s[2].rest(),
		s[4].limb() + s[3].rest(),
	})
}
