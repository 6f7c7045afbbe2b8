package field_test

import (
	"math/big"
	"math/rand"
	"slices"

	"buttress/field"
)

var p = new(big.Int).Sub(power2(255), big.NewInt(19))

func power2(k uint) *big.Int { return new(big.Int).Lsh(big.NewInt(1), k) }

func plus(n *big.Int, m int64) *big.Int { return new(big.Int).Add(n, big.NewInt(m)) }

func mod(n *big.Int) *big.Int { return new(big.Int).Mod(n, p) }

// value is the number that an element stands for.
func value(a field.Elem) *big.Int {
	n := new(big.Int)
	for i := range a {
		limb := new(big.Int).SetUint64(a[i])
		n.Add(n, limb.Lsh(limb, uint(51*i)))
	}
	return mod(n)
}

// right says whether an element is.
func right(a field.Elem) bool {
	return !slices.ContainsFunc(a[:], func(limb uint64) bool { return limb >= 1<<52 })
}

// elem has the number's bits in its limbs: 52 in the last one.
func elem(n *big.Int) field.Elem {
	var a field.Elem
	for i := range a {
		a[i] = new(big.Int).Rsh(n, uint(51*i)).Uint64() & (1<<51 - 1)
	}
	a[4] = new(big.Int).Rsh(n, 204).Uint64() & (1<<52 - 1)
	return a
}

// raw is a number's 32 bytes, the lowest first.
func raw(n *big.Int) []byte {
	b := n.FillBytes(make([]byte, 32))
	slices.Reverse(b)
	return b
}

// numbers are ordinary ones, and those about 0, p, 2 p and powers of 2, all below 2^256.
func numbers() []*big.Int {
	out := []*big.Int{}
	for m := int64(-21); m <= 21; m++ {
		out = append(out, plus(p, m), plus(new(big.Int).Lsh(p, 1), m))
		if m >= 0 {
			out = append(out, big.NewInt(m), plus(power2(256), -1-m))
		}
	}
	for _, k := range []uint{8, 31, 32, 50, 51, 52, 63, 64, 102, 103, 127, 128, 153, 192, 204, 205, 253, 254, 255} {
		out = append(out, plus(power2(k), -1), power2(k), plus(power2(k), 1), new(big.Int).Sub(p, power2(min(k, 254))))
	}
	r := rand.New(rand.NewSource(2))
	for range 20 {
		out = append(out, new(big.Int).Rand(r, power2(256)))
	}
	return out
}

// corners are right elements whose limbs stand at the edges of what they may be, and about where they carry.
func corners() []field.Elem {
	edges := []uint64{0, 1<<51 - 1, 1<<52 - 1}
	var out []field.Elem
	for n := range 243 {
		var a field.Elem
		for i := range a {
			a[i] = edges[n%3]
			n /= 3
		}
		out = append(out, a)
	}
	for i := range 5 {
		for _, limb := range []uint64{1, 2, 18, 19, 20, 1<<51 - 20, 1<<51 - 19, 1<<51 - 18, 1 << 51, 1<<51 + 1, 1<<52 - 39, 1<<52 - 38, 1<<52 - 37, 1<<52 - 2} {
			var a, b field.Elem
			for k := range b {
				b[k] = 1<<51 - 1
			}
			a[i], b[i] = limb, limb
			out = append(out, a, b)
		}
	}
	return out
}

// forms are the right elements of one number, as far as they have another multiple of p, or one of 2^51 in the limb below.
func forms(n *big.Int) []field.Elem {
	n = mod(n)
	var out []field.Elem
	for m := new(big.Int).Set(n); m.BitLen() <= 256; m.Add(m, p) {
		a := elem(m)
		out = append(out, a)
		for i := range 4 {
			if a[i+1] > 0 && a[i] < 1<<51 {
				a[i+1]--
				a[i] += 1 << 51
				out = append(out, a)
			}
		}
	}
	return out
}

// elems are all of these, and ordinary ones.
func elems() []field.Elem {
	out := corners()
	for _, n := range numbers() {
		out = append(out, elem(n))
	}
	r := rand.New(rand.NewSource(52))
	for range 50 {
		out = append(out, someElem(r))
	}
	return out
}

// few are some of the elements, for what is reckoned of pairs or triples of them.
func few(n int) []field.Elem {
	all := elems()
	r := rand.New(rand.NewSource(int64(n)))
	r.Shuffle(len(all), func(i, k int) { all[i], all[k] = all[k], all[i] })
	top := uint64(1<<52 - 1)
	return append(all[:n], field.Elem{}, elem(p), field.One(), field.Elem{top, top, top, top, top})
}

func someElem(r *rand.Rand) field.Elem {
	var a field.Elem
	for i := range a {
		a[i] = r.Uint64() >> 12
	}
	return a
}
