package shard

import (
	"iter"

	"buttress/api"
)

// octets are a digest's bytes.
type octets [api.Digest]byte

// bits tells the bits from a place on, up to another one: of each byte the highest first.
func (o octets) bits(from, to int) iter.Seq[byte] {
	return func(yield func(byte) bool) {
		for at := from; at < to; at++ {
			if !yield(o[at/8] >> (7 - at%8) & 1) {
				return
			}
		}
	}
}
