package sha_test

import (
	"bytes"
	"crypto/sha512"
	"encoding/hex"
	"math/rand"
	"strings"
	"testing"

	"buttress/api"
	"buttress/sha"
)

// text is n bytes, the same for each n, without a period.
func text(n int) []byte {
	b := make([]byte, n)
	rand.New(rand.NewSource(int64(n))).Read(b)
	return b
}

func want(b []byte) []byte {
	sum := sha512.Sum512(b)
	return sum[:]
}

// edges are the lengths at which the padding or the blocks change.
func edges() []int {
	var out []int
	for k := range 5 {
		for _, n := range []int{0, 1, 110, 111, 112, 113, 126, 127} {
			out = append(out, 128*k+n)
		}
	}
	return out
}

// P1.1: the examples of FIPS 180-4.
func TestSumKnown(t *testing.T) {
	for in, sum := range map[string]string{
		"":    "cf83e1357eefb8bdf1542850d66d8007d620e4050b5715dc83f4a921d36ce9ce47d0d13c5d85f2b0ff8318d2877eec2f63b931bd47417a81a538327af927da3e",
		"abc": "ddaf35a193617abacc417349ae20413112e6fa4e89a97ea20a9eeee64b55d39a2192992a274fc1a836ba3c23a3feebbd454d4423643ce80e2a9ac94fa54ca49f",
		"abcdefghbcdefghicdefghijdefghijkefghijklfghijklmghijklmnhijklmnoijklmnopjklmnopqklmnopqrlmnopqrsmnopqrstnopqrstu": "8e959b75dae313da8cf4f72814fc143f8f7779c6eb9f7fa17299aeadb6889018501d289e4900f7e4331b99dec4b5433ac7d329eeb6dd26545e96e55b874be909",
		strings.Repeat("a", 1000000): "e718483d0ce769644e2e42c7bc15b4638e1f98b13b2044285632a803afa973ebde0ff244877ea60a4cb0432ce577c31beb009c5c2c49aa2e4eadb217ad8cc09b",
	} {
		if got := hex.EncodeToString(sha.Sum([]byte(in))); got != sum {
			t.Errorf("%.20q: %s", in, got)
		}
	}
}

// P1.1: all lengths about which blocks and padding change.
func TestSumLengths(t *testing.T) {
	for n := range 700 {
		if b := text(n); !bytes.Equal(sha.Sum(b), want(b)) {
			t.Errorf("%d bytes", n)
		}
	}
	for _, n := range []int{1 << 13, 1<<16 - 1, 1<<20 + 112, 3<<20 + 5} {
		if b := text(n); !bytes.Equal(sha.Sum(b), want(b)) {
			t.Errorf("%d bytes", n)
		}
	}
}

// P1.1: parts stand one behind the other; none, and parts of no bytes, are none.
func TestSumParts(t *testing.T) {
	a, b, c := text(100), text(28), text(130)
	all := append(append(append([]byte{}, a...), b...), c...)
	for i, got := range [][]byte{
		sha.Sum(a, b, c),
		sha.Sum(all),
		sha.Sum(nil, a, []byte{}, b, nil, c, nil),
	} {
		if !bytes.Equal(got, want(all)) {
			t.Error(i)
		}
	}
	if bytes.Equal(sha.Sum(b, a, c), want(all)) {
		t.Error("order plays no part")
	}
	for i, got := range [][]byte{sha.Sum(), sha.Sum(nil), sha.Sum([]byte{}, nil), sha.New().Sum()} {
		if !bytes.Equal(got, want(nil)) {
			t.Error("no bytes", i)
		}
	}
}

// P1.1, P1.2: the number of bits is more than 32 bits hold.
func TestLong(t *testing.T) {
	part := text(1 << 20)
	h, other := sha.New(), sha512.New()
	for range 1<<29>>20 + 1 {
		h.Write(part)
		other.Write(part)
	}
	if !bytes.Equal(h.Sum(), other.Sum(nil)) {
		t.Error("a long text")
	}
}

// P1.2: Write goes on where it was, Sum changes nothing.
func TestWrite(t *testing.T) {
	h := sha.New()
	var all []byte
	for _, n := range []int{0, 3, 124, 1, 1, 127, 0, 128, 129, 256, 111, 1, 16, 500} {
		part := text(n)
		all = append(all, part...)
		if e := h.Write(part); e != api.OK {
			t.Fatal(n, e)
		}
		for range 3 {
			if !bytes.Equal(h.Sum(), want(all)) {
				t.Fatal("behind", len(all))
			}
		}
	}
	if e := h.Write(); e != api.OK || !bytes.Equal(h.Sum(), want(all)) {
		t.Error("no parts")
	}
	if e := h.Write(nil, []byte{}); e != api.OK || !bytes.Equal(h.Sum(), want(all)) {
		t.Error("parts of no bytes")
	}
	if e := h.Write([]byte("x"), nil, []byte("yz")); e != api.OK || !bytes.Equal(h.Sum(), want(append(all, "xyz"...))) {
		t.Error("three parts")
	}
}

// P1.2: hashes that New answered have nothing of each other.
func TestNew(t *testing.T) {
	g, h := sha.New(), sha.New()
	g.Write(text(300))
	if !bytes.Equal(h.Sum(), want(nil)) || !bytes.Equal(sha.New().Sum(), want(nil)) {
		t.Error("another one was written to")
	}
}

// P1.2: a copy and its hash go on apart, wherever in a block the copy was taken.
func TestCopy(t *testing.T) {
	for _, n := range edges() {
		b := text(n)
		h := sha.New()
		h.Write(b)
		c := h.Copy()
		if c == nil || c == h || !bytes.Equal(c.Sum(), want(b)) {
			t.Fatal(n)
		}
		one, two, three := text(n+50), text(n+51), text(n+52)
		h.Write(one)
		c.Write(two)
		d := c.Copy() // a copy of a copy
		d.Write(three)
		for i, got := range []struct{ sum, of []byte }{
			{h.Sum(), bytes.Join([][]byte{b, one}, nil)},
			{c.Sum(), bytes.Join([][]byte{b, two}, nil)},
			{d.Sum(), bytes.Join([][]byte{b, two, three}, nil)},
		} {
			if !bytes.Equal(got.sum, want(got.of)) {
				t.Error(n, i)
			}
		}
	}
}

// P1.2: what New and Copy did not answer is no hash.
func TestNoHash(t *testing.T) {
	taken := *sha.New()
	of := sha.New()
	of.Write([]byte("abc"))
	copied := *of
	var none *sha.Hash
	for i, h := range []*sha.Hash{none, {}, new(sha.Hash), &taken, &copied} {
		for range 2 {
			if e := h.Write(); e != api.ErrNil {
				t.Error(i, "no parts:", e)
			}
			if e := h.Write([]byte("abc"), text(200)); e != api.ErrNil {
				t.Error(i, e)
			}
			if b := h.Sum(); len(b) != 0 {
				t.Error(i, b)
			}
			if c := h.Copy(); c != nil {
				t.Error(i, "a copy")
			}
		}
	}
	if !bytes.Equal(of.Sum(), want([]byte("abc"))) {
		t.Error("the hash itself has changed")
	}
}

// P1.3: however a text is parted, in one call or many, its digest is one.
func TestParting(t *testing.T) {
	r := rand.New(rand.NewSource(3))
	for _, n := range edges() {
		b := text(n)
		for range 20 {
			parts := parted(r, b)
			h := sha.New()
			for rest := parts; len(rest) > 0; {
				k := 1 + r.Intn(len(rest))
				h.Write(rest[:k]...)
				rest = rest[k:]
			}
			if !bytes.Equal(sha.Sum(parts...), want(b)) || !bytes.Equal(h.Sum(), want(b)) {
				t.Fatal(n, len(parts))
			}
		}
	}
}

// P1.3: one byte at a time.
func TestBytewise(t *testing.T) {
	b := text(400)
	h := sha.New()
	for i := range b {
		h.Write(b[i : i+1])
		if !bytes.Equal(h.Sum(), want(b[:i+1])) {
			t.Fatal(i)
		}
	}
}

// parted cuts b at places that r chooses; some parts have no bytes.
func parted(r *rand.Rand, b []byte) [][]byte {
	parts := [][]byte{nil}
	for len(b) > 0 {
		n := min(r.Intn(200), len(b))
		parts = append(parts, b[:n])
		b = b[n:]
	}
	return parts
}

// R3: arguments are neither changed nor kept, and digests are new memory.
func TestMemory(t *testing.T) {
	b, same := text(200), text(200)
	parts := [][]byte{b[:60], b[60:]}
	h := sha.New()
	h.Write(parts...)
	sum := h.Sum()
	once := sha.Sum(parts...)
	if !bytes.Equal(b, same) || len(parts) != 2 || len(parts[0]) != 60 || len(parts[1]) != 140 {
		t.Error("an argument was changed")
	}
	clear(b)
	clear(sum)
	clear(once)
	if !bytes.Equal(h.Sum(), want(same)) || !bytes.Equal(sha.Sum(same), want(same)) || !bytes.Equal(sha.Sum(), want(nil)) {
		t.Error("memory is shared")
	}
}

func BenchmarkSum(b *testing.B) {
	part := text(1 << 16)
	b.SetBytes(int64(len(part)))
	for b.Loop() {
		sha.Sum(part)
	}
}
