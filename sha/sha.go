// Package sha is layer 1: digests (SHA-512), of what was written part by part.
package sha

import (
	"buttress/api"
)

// Hash is of bytes that were written. It embeds the eight words that the whole blocks among them have turned.
type Hash struct {
	words
	rest [blockSize]byte // its first size modulo blockSize bytes wait for a whole block
	size uint64          // how many bytes were written
	made *Hash           // itself, as New or Copy answered it: a zero Hash and a copied struct don't have that
}

// New answers a hash of no bytes.
func New() *Hash {
	h := &Hash{words: squareRoots}
	h.made = h
	return h
}

// Sum is the digest of the parts, one behind the other.
func Sum(parts ...[]byte) []byte {
	h := New()
	h.Write(parts...)
	return h.Sum()
}

// Write puts the parts behind what the hash is of.
func (h *Hash) Write(parts ...[]byte) api.Errno {
	if !h.good() {
		return api.ErrNil
	}
	for _, part := range parts {
		h.add(part)
	}
	return api.OK
}

// Sum is the digest of what was written; more may be written behind it.
func (h *Hash) Sum() []byte {
	if !h.good() {
		return nil
	}
	whole := *h // the padding is not part of what h is of
	whole.pad()
	return whole.digest()
}

// Copy answers another hash of the same bytes.
func (h *Hash) Copy() *Hash {
	if !h.good() {
		return nil
	}
	c := *h
	c.made = &c
	return &c
}

// good says whether New or Copy answered the hash.
func (h *Hash) good() bool {
	return h != nil && h.made == h
}

// add takes bytes on: each block that they make whole turns the words, what is left over waits.
func (h *Hash) add(part []byte) {
	waiting := int(h.size % blockSize)
	h.size += uint64(len(part))
	if waiting > 0 {
		n := copy(h.rest[waiting:], part)
		if waiting+n < blockSize {
			return
		}
		h.turn(h.rest[:])
		part = part[n:]
	}
	for len(part) >= blockSize {
		h.turn(part[:blockSize])
		part = part[blockSize:]
	}
	copy(h.rest[:], part)
}

// pad makes the text whole.
func (h *Hash) pad() {
	high, low := h.size>>61, h.size<<3 // the number of bits
	var tail [2 * blockSize]byte
	tail[0] = 128
	n := blockSize - int(h.size%blockSize)
	if n < 1+lengthSize { // the byte 128 and the length don't fit in this block
		n += blockSize
	}
	putWord(tail[n-lengthSize:], high)
	putWord(tail[n-lengthSize/2:], low)
	h.add(tail[:n])
}
