package sign_test

import (
	"bytes"
	"crypto/sha512"
	"math/big"
	"math/rand"
	"slices"

	"buttress/edwards"
)

// What the chapter's words say, reckoned once more: numbers by math/big, digests by crypto/sha512, each multiple of a point for itself.

var (
	order = decimal("7237005577332262213973186563042994240857116359379907606001950938285454250989")
	prime = new(big.Int).Sub(power2(255), big.NewInt(19))
	zero  = new(big.Int)
)

func decimal(s string) *big.Int {
	n, _ := new(big.Int).SetString(s, 10)
	return n
}

func power2(k uint) *big.Int { return new(big.Int).Lsh(big.NewInt(1), k) }

func plus(n *big.Int, m int64) *big.Int { return new(big.Int).Add(n, big.NewInt(m)) }

func mod(n *big.Int) *big.Int { return new(big.Int).Mod(n, order) }

// raw is the 32 bytes of a number, the lowest first.
func raw(n *big.Int) []byte {
	b := n.FillBytes(make([]byte, 32))
	slices.Reverse(b)
	return b
}

func value(b []byte) *big.Int {
	c := slices.Clone(b)
	slices.Reverse(c)
	return new(big.Int).SetBytes(c)
}

// often is H of the parts, as one that says how often.
func often(parts ...[]byte) *big.Int {
	sum := sha512.Sum512(bytes.Join(parts, nil))
	return mod(value(sum[:]))
}

// base is so many base points; the number is below 2^256.
func base(n *big.Int) edwards.Point { return edwards.Mul(raw(n), edwards.Base()) }

// balance says whether S times the base is the sum of R and k times A.
func balance(a, r edwards.Point, s, k *big.Int) bool {
	return edwards.Same(base(s), edwards.Add(r, edwards.Mul(raw(k), a)))
}

// fits is whether a signature fits a public key and a text.
func fits(public, sig, text []byte) bool {
	if len(public) != 32 || len(sig) != 64 {
		return false
	}
	a, aThere := edwards.Get(public)
	r, rThere := edwards.Get(sig[:32])
	s := value(sig[32:])
	return aThere && rThere && s.Cmp(order) < 0 && balance(a, r, s, often(sig[:32], public, text))
}

// small are the eight points that eight of come to Zero, each as many of the second one as its place says.
func small() []edwards.Point {
	for y := int64(2); ; y++ {
		p, ok := edwards.Get(raw(big.NewInt(y)))
		if !ok {
			continue
		}
		p = edwards.Mul(raw(order), p)
		if edwards.Same(edwards.Double(edwards.Double(p)), edwards.Zero()) {
			continue
		}
		out := []edwards.Point{edwards.Zero()}
		for range 7 {
			out = append(out, edwards.Add(out[len(out)-1], p))
		}
		return out
	}
}

// forge makes a key of so many base points and a small one, and what would be its signature if there were no small ones: R has one too.
func forge(a, r *big.Int, smallA, smallR edwards.Point, text []byte) (public, sig []byte) {
	public = edwards.Put(edwards.Add(base(a), smallA))
	first := edwards.Put(edwards.Add(base(r), smallR))
	return public, append(first, raw(answer(often(first, public, text), a, r))...)
}

// answer is (k a + r) modulo L.
func answer(k, a, r *big.Int) *big.Int {
	s := new(big.Int).Mul(k, a)
	return mod(s.Add(s, r))
}

// some is n bytes, the same for each n, without a period.
func some(n int) []byte {
	b := make([]byte, n)
	rand.New(rand.NewSource(int64(n) + 5)).Read(b)
	return b
}

// seeds are of one byte over and over, and ordinary ones.
func seeds(r *rand.Rand, ordinary int) [][]byte {
	out := [][]byte{make([]byte, 32), bytes.Repeat([]byte{0xff}, 32), bytes.Repeat([]byte{7}, 32)}
	for range ordinary {
		b := make([]byte, 32)
		r.Read(b)
		out = append(out, b)
	}
	return out
}

// texts are of no bytes, of lengths about which the digests' blocks change, and a long one.
func texts() [][]byte {
	var out [][]byte
	for _, n := range []int{0, 1, 2, 31, 32, 33, 47, 48, 63, 64, 65, 79, 80, 95, 96, 111, 112, 127, 128, 129, 300, 5000} {
		out = append(out, some(n))
	}
	return append(out, make([]byte, 100))
}

// partings are the same text in other parts: in one, bytewise, with parts of no bytes, cut anywhere.
func partings(r *rand.Rand, b []byte) [][][]byte {
	out := [][][]byte{{b}, {nil, b}, {b, {}}, {{}, b, nil, nil}}
	if len(b) == 0 {
		out = append(out, nil)
	}
	if len(b) < 200 {
		out = append(out, slices.Collect(slices.Chunk(b, 1)))
	}
	for range 3 {
		n, m := r.Intn(len(b)+1), r.Intn(len(b)+1)
		n, m = min(n, m), max(n, m)
		out = append(out, [][]byte{b[:n], b[n:m], b[m:]})
	}
	return out
}
