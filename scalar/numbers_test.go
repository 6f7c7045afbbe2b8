package scalar_test

import (
	"math/big"
	"math/rand"
	"slices"
)

var order = orderOf("27742317777372353535851937790883648493")

func orderOf(above string) *big.Int {
	n, _ := new(big.Int).SetString(above, 10)
	return n.Add(n, power2(252))
}

func power2(k uint) *big.Int { return new(big.Int).Lsh(big.NewInt(1), k) }

func plus(n *big.Int, m int64) *big.Int { return new(big.Int).Add(n, big.NewInt(m)) }

func mod(n *big.Int) *big.Int { return new(big.Int).Mod(n, order) }

// value is the number of bytes, the lowest first.
func value(b []byte) *big.Int {
	b = slices.Clone(b)
	slices.Reverse(b)
	return new(big.Int).SetBytes(b)
}

// raw is a number's bytes, the lowest first, of so many.
func raw(n *big.Int, size int) []byte {
	b := n.FillBytes(make([]byte, size))
	slices.Reverse(b)
	return b
}

// raw32 is a number's scalar, right or not.
func raw32(n *big.Int) []byte { return raw(n, 32) }

// numbers are below 2 to that power: about 0, powers of 2, multiples of the order and of its first bit, all words of noughts or ones, and ordinary ones.
func numbers(power uint) []*big.Int {
	out := about(new(big.Int))
	for k := range power + 1 {
		out = append(out, about(power2(k))...)
	}
	for k := range power - 252 {
		for _, times := range []int64{1, 3, 5, 15} {
			n := new(big.Int).Mul(order, big.NewInt(times))
			out = append(out, about(n.Lsh(n, k))...)
			n = new(big.Int).Mul(power2(252), big.NewInt(times))
			out = append(out, about(n.Lsh(n, k))...)
		}
	}
	out = append(out, multiples(power)...)
	for n := range 1 << (power / 64) {
		out = append(out, stripes(n))
	}
	r := rand.New(rand.NewSource(3))
	for range 100 {
		out = append(out, new(big.Int).Rand(r, power2(power)))
	}
	return slices.DeleteFunc(out, func(n *big.Int) bool { return n.Sign() < 0 || n.BitLen() > int(power) })
}

func about(n *big.Int) []*big.Int {
	return []*big.Int{plus(n, -2), plus(n, -1), n, plus(n, 1), plus(n, 2)}
}

// multiples are about the order, all words ones often and less, and as often as it goes.
func multiples(power uint) []*big.Int {
	last := new(big.Int).Div(power2(power), order)
	var out []*big.Int
	for m := int64(0); m < 20; m++ {
		out = append(out, about(new(big.Int).Mul(order, big.NewInt(m)))...)
		out = append(out, about(new(big.Int).Mul(order, plus(last, -m)))...)
	}
	for _, k := range []uint{8, 32, 60, 63, 64, 65, 128, 192, 196, 256} {
		for _, m := range []int64{-2, -1, 1, 2} {
			out = append(out, about(new(big.Int).Mul(order, plus(power2(k), m)))...)
		}
	}
	return out
}

// stripes are words each of which has its bits alike: those of n, the lowest first.
func stripes(n int) *big.Int {
	out := new(big.Int)
	for i := uint(0); n>>i > 0; i++ {
		if n>>i&1 == 1 {
			out.Add(out, new(big.Int).Lsh(plus(power2(64), -1), 64*i))
		}
	}
	return out
}

// few are numbers below 2^256 of each kind, for what is reckoned of triples of them.
func few(n int) []*big.Int {
	all := numbers(256)
	r := rand.New(rand.NewSource(int64(n)))
	r.Shuffle(len(all), func(i, k int) { all[i], all[k] = all[k], all[i] })
	out := []*big.Int{new(big.Int), big.NewInt(1), plus(order, -1), order, plus(order, 1), plus(power2(256), -1)}
	return append(out, all[:n]...)
}
