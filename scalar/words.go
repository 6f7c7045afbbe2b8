package scalar

import "math/bits"

// narrow is a number below 2^256: the sum of its words, each times 2 to the power 64 times its place.
type narrow [4]uint64

// wide is such a number below 2^512.
type wide [8]uint64

func narrowOf(b ...byte) narrow {
	var n narrow
	fill(n[:], b...)
	return n
}

// bytes are the number's, the lowest first.
func (n narrow) bytes() []byte {
	out := make([]byte, 0, size)
	for _, word := range n {
		for range 8 {
			out = append(out, byte(word))
			word >>= 8
		}
	}
	return out
}

// load makes the number that of the bytes, of which there are at most 64.
func (w *wide) load(b ...byte) {
	*w = wide{}
	fill(w[:], b...)
}

// mulAdd makes the number a times b, and c. That fits: the square of 2^256 - 1, and that again, is below 2^512.
func (w *wide) mulAdd(a, b, c narrow) {
	*w = wide{}
	copy(w[:], c[:])
	for i, x := range a {
		var over uint64
		for k, y := range b {
			over, w[i+k] = mulAddWords(x, y, w[i+k], over)
		}
		w[i+len(b)] = over // nothing was there yet
	}
}

// is says whether the number is n: its lower half is, and its upper half is 0.
func (w *wide) is(n narrow) bool {
	return narrow(w[:4]) == n && narrow(w[4:]) == narrow{}
}

// fill puts bytes, the lowest first, into words that are 0.
func fill(words []uint64, b ...byte) {
	for i, x := range b {
		words[i/8] |= uint64(x) << (8 * (i % 8))
	}
}

// mulAddWords answers the two words of x times y, and a, and b: two are enough, whatever the four are.
func mulAddWords(x, y, a, b uint64) (high, low uint64) {
	high, low = bits.Mul64(x, y)
	var over uint64
	low, over = bits.Add64(low, a, 0)
	high += over
	low, over = bits.Add64(low, b, 0)
	return high + over, low
}
