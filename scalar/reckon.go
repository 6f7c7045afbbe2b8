package scalar

import (
	"math"
	"math/bits"
	"slices"
)

// order is L.
var order = narrow{0x5812631a5cf5d3ed, 0x14def9dea2f79cd6, 0, 1 << topBits}

const topBits = 60 // of the order's last word: the order is little more than 2^252

// reckoning divides its wide number by the order, word by word from the highest on.
type reckoning struct {
	wide
	rest narrow // of the words that were brought down: below the order
}

// modulo answers what is left of the number.
func (r *reckoning) modulo() narrow {
	r.rest = narrow{}
	for _, word := range slices.Backward(r.wide[:]) {
		r.bringDown(word)
	}
	return r.rest
}

// bringDown puts a word below the rest, and takes from both as many orders as there are in them.
func (r *reckoning) bringDown(word uint64) {
	top := r.rest[3]
	r.rest = narrow{word, r.rest[0], r.rest[1], r.rest[2]}
	if top < r.takeOff(guess(top, r.rest[3])) { // one order too many
		r.putBack()
	}
}

// guess answers how many orders there are in a number of five words of which these are the highest, or one more. There are no more than a word says, as the highest four are below the order; and what the number has of 2^252 is no more than one above that, as the order is so near to it.
func guess(top, next uint64) uint64 {
	if top>>topBits > 0 {
		return math.MaxUint64
	}
	return top<<(64-topBits) | next>>topBits
}

// takeOff takes so many orders from the rest, and answers what is still to be taken from the word above it.
func (r *reckoning) takeOff(times uint64) uint64 {
	var over, below uint64
	for i, word := range order {
		var low uint64
		over, low = mulAddWords(times, word, over, 0)
		r.rest[i], below = bits.Sub64(r.rest[i], low, below)
	}
	return over + below
}

// putBack adds an order to a rest that has fallen below 0.
func (r *reckoning) putBack() {
	var over uint64
	for i, word := range order {
		r.rest[i], over = bits.Add64(r.rest[i], word, over)
	}
}
