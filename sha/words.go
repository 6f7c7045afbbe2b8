package sha

import "math/bits"

const (
	blockSize  = 128 // bytes of a block
	lengthSize = 16  // bytes that tell a text's length
	rounds     = 80  // of a block
)

// words are the eight that blocks turn.
type words [8]uint64

// turn lets one block turn the words.
func (w *words) turn(block []byte) {
	row := spread(block)
	a, b, c, d, e, f, g, h := w[0], w[1], w[2], w[3], w[4], w[5], w[6], w[7]
	for t := range rounds {
		t1 := h + bigOne(e) + choose(e, f, g) + cubeRoots[t] + row[t]
		t2 := bigZero(a) + majority(a, b, c)
		h, g, f, e, d, c, b, a = g, f, e, d+t1, c, b, a, t1+t2
	}
	w[0] += a
	w[1] += b
	w[2] += c
	w[3] += d
	w[4] += e
	w[5] += f
	w[6] += g
	w[7] += h
}

// digest is the words as bytes.
func (w *words) digest() []byte {
	out := make([]byte, 8*len(w))
	for i, word := range w {
		putWord(out[8*i:], word)
	}
	return out
}

// spread makes a word for each round out of a block's sixteen.
func spread(block []byte) [rounds]uint64 {
	var row [rounds]uint64
	for t := range blockSize / 8 {
		row[t] = getWord(block[8*t:])
	}
	for t := blockSize / 8; t < rounds; t++ {
		row[t] = smallOne(row[t-2]) + row[t-7] + smallZero(row[t-15]) + row[t-16]
	}
	return row
}

func getWord(b []byte) uint64 {
	_ = b[7] // one look at the length for all eight
	return uint64(b[0])<<56 | uint64(b[1])<<48 | uint64(b[2])<<40 | uint64(b[3])<<32 |
		uint64(b[4])<<24 | uint64(b[5])<<16 | uint64(b[6])<<8 | uint64(b[7])
}

func putWord(b []byte, word uint64) {
	for i := range 8 {
		b[i] = byte(word >> (56 - 8*i))
	}
}

func choose(x, y, z uint64) uint64 { return x&y ^ ^x&z }

func majority(x, y, z uint64) uint64 { return x&y ^ x&z ^ y&z }

func bigZero(x uint64) uint64 { return right(x, 28) ^ right(x, 34) ^ right(x, 39) }

func bigOne(x uint64) uint64 { return right(x, 14) ^ right(x, 18) ^ right(x, 41) }

func smallZero(x uint64) uint64 { return right(x, 1) ^ right(x, 8) ^ x>>7 }

func smallOne(x uint64) uint64 { return right(x, 19) ^ right(x, 61) ^ x>>6 }

// right turns a word right: the library turns left, and a negative count the other way.
func right(x uint64, n int) uint64 { return bits.RotateLeft64(x, -n) }
