package shard

import (
	"buttress/api"
	"buttress/sha"
)

const (
	keyMark   = 6 // ahead of the key, so that no digest of a tree's is a key's: those have less there
	shardBits = 2 // they tell one of api.Shards
)

// digest is a key's. It embeds its bytes.
type digest struct {
	octets
}

func digestOf(key string) digest {
	return digest{octets(sha.Sum([]byte{keyMark}, []byte(key)))}
}

// shard is the number of the first bits.
func (d digest) shard() int {
	n := 0
	for bit := range d.bits(0, shardBits) {
		n = 2*n + int(bit)
	}
	return n
}

// way is the signs of the bits behind the shard's.
func (d digest) way() string {
	const last = 8 * api.Digest
	way := make(signs, 0, last-shardBits)
	for bit := range d.bits(shardBits, last) {
		way = way.put(bit)
	}
	return string(way)
}

// signs are those of a way, as far as it is gone.
type signs []byte

// put answers the signs with those of the bits behind them.
func (s signs) put(bits ...byte) signs {
	for _, bit := range bits {
		s = append(s, '0'+bit)
	}
	return s
}
