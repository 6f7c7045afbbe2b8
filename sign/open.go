package sign

import (
	"buttress/edwards"
	"buttress/scalar"
	"buttress/sha"
)

// What is set and cleared in a secret: the number is a multiple of 8, from 2^254 to below 2^255.
const (
	lowestBits = 7
	highestBit = 128
	nextBit    = 64
)

// point is one of the curve's, beside its bytes: sums take the one, digests the other.
type point struct {
	edwards.Point
	bytes []byte
}

// pointOf answers the point whose bytes b is, if it is one's.
func pointOf(b []byte) (point, bool) {
	p, ok := edwards.Get(b)
	return point{p, b}, ok
}

// basePoints answers as many base points as the number says.
func basePoints(often []byte) point {
	p := edwards.Mul(often, edwards.Base())
	return point{p, edwards.Put(p)}
}

// opened is a seed that was opened: it embeds the point of its public key.
type opened struct {
	point
	secret []byte
	prefix []byte // stands ahead of a text where it is told how often R has the base
}

// open opens a seed of 32 bytes.
func open(seed []byte) opened {
	d := sha.Sum(seed)
	secret, prefix := d[:seedSize], d[seedSize:]
	secret[0] &^= lowestBits
	secret[seedSize-1] &^= highestBit
	secret[seedSize-1] |= nextBit
	return opened{basePoints(secret), secret, prefix}
}

// number answers the digest of what stands ahead of the text and the text, as one that says how often.
func number(text [][]byte, ahead ...[]byte) []byte {
	h := sha.New()
	h.Write(ahead...)
	h.Write(text...)
	return scalar.Reduce(h.Sum())
}
