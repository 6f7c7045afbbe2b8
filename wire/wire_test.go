package wire_test

import (
	"bytes"
	"math"
	"math/big"
	"math/rand"
	"slices"
	"testing"

	"buttress/wire"
)

// numbers are the greatest and the least, those about 0 and the powers of 2, each byte in each place, and ordinary ones.
func numbers() []int {
	out := []int{math.MinInt, math.MinInt + 1, math.MaxInt - 1, math.MaxInt}
	for n := -300; n <= 300; n++ {
		out = append(out, n)
	}
	for k := range 63 {
		for _, n := range []int{1<<k - 1, 1 << k, 1<<k + 1} {
			out = append(out, n, -n)
		}
	}
	for place := range 8 {
		for b := range 256 {
			out = append(out, int(uint64(b)<<(8*place)))
		}
	}
	r := rand.New(rand.NewSource(61))
	for range 300 {
		out = append(out, int(r.Uint64()>>r.Intn(64)))
	}
	return out
}

// eight are a number's bytes by the chapter's words: below 0 they are those of 2^64 more.
func eight(n int) []byte {
	whole := big.NewInt(int64(n))
	if n < 0 {
		whole.Add(whole, new(big.Int).Lsh(big.NewInt(1), 64))
	}
	return whole.FillBytes(make([]byte, 8))
}

// some is n bytes, the same for each n, without a period.
func some(n int) []byte {
	b := make([]byte, n)
	rand.New(rand.NewSource(int64(n) + 6)).Read(b)
	return b
}

// P6.1: numbers are eight bytes, the highest first.
func TestNumber(t *testing.T) {
	for _, n := range numbers() {
		if got := wire.Number(n); !bytes.Equal(got, eight(n)) {
			t.Fatalf("%d: %x", n, got)
		}
	}
	for n, want := range map[int][]byte{
		0:             make([]byte, 8),
		1:             {0, 0, 0, 0, 0, 0, 0, 1},
		-2:            {255, 255, 255, 255, 255, 255, 255, 254},
		-256:          {255, 255, 255, 255, 255, 255, 255, 0},
		math.MinInt:   {128, 0, 0, 0, 0, 0, 0, 0},
		math.MaxInt:   {127, 255, 255, 255, 255, 255, 255, 255},
		0x10203040506: {0, 0, 1, 2, 3, 4, 5, 6},
	} {
		if got := wire.Number(n); !bytes.Equal(got, want) {
			t.Errorf("%d: %x", n, got)
		}
	}
}

// P6.1: bytes are their number, and they.
func TestBytes(t *testing.T) {
	for _, n := range []int{0, 1, 2, 7, 8, 9, 255, 256, 257, 65535, 65536, 1 << 20} {
		b := some(n)
		if got := wire.Bytes(b); !bytes.Equal(got, append(eight(n), b...)) {
			t.Errorf("%d bytes", n)
		}
	}
	for x := range 256 {
		if got := wire.Bytes([]byte{byte(x)}); !bytes.Equal(got, []byte{0, 0, 0, 0, 0, 0, 0, 1, byte(x)}) {
			t.Errorf("%d: %x", x, got)
		}
	}
	for i, b := range [][]byte{nil, {}, some(5)[:0], some(5)[5:]} {
		if got := wire.Bytes(b); !bytes.Equal(got, make([]byte, 8)) {
			t.Errorf("no bytes, %d: %x", i, got)
		}
	}
}

// P6.1: parts stand one behind the other; those of no bytes, and nil, are none.
func TestJoin(t *testing.T) {
	a, b, c := []byte("a"), []byte("bc"), []byte("def")
	for _, one := range []struct {
		parts [][]byte
		want  string
	}{
		{nil, ""},
		{[][]byte{}, ""},
		{[][]byte{nil}, ""},
		{[][]byte{{}, nil, {}}, ""},
		{[][]byte{a}, "a"},
		{[][]byte{nil, a}, "a"},
		{[][]byte{a, {}}, "a"},
		{[][]byte{a, b, c}, "abcdef"},
		{[][]byte{c, b, a}, "defbca"},
		{[][]byte{a, nil, b, {}, {}, c, nil}, "abcdef"},
		{[][]byte{b, b, a, b}, "bcbcabc"},
	} {
		if got := wire.Join(one.parts...); string(got) != one.want {
			t.Errorf("%q: %q", one.parts, got)
		}
	}
	if len(wire.Join()) != 0 {
		t.Error("no part")
	}
	var parts [][]byte
	var all []byte
	for n := range 1000 {
		parts = append(parts, some(n%37))
		all = append(all, some(n%37)...)
	}
	if !bytes.Equal(wire.Join(parts...), all) {
		t.Error("many parts")
	}
}

// R3, R4: arguments are neither changed nor kept, answers are new memory and each time alike.
func TestMemory(t *testing.T) {
	a, b := some(20), some(30)
	parts := [][]byte{a, nil, b}
	calls := []func() []byte{
		func() []byte { return wire.Number(-77) },
		func() []byte { return wire.Bytes(a) },
		func() []byte { return wire.Join(parts...) },
		func() []byte { return wire.Join(a) },
		func() []byte { return wire.Join(nil, a, nil) },
	}
	for i, call := range calls {
		want := slices.Clone(call())
		clear(call())
		_ = append(call()[:1], some(40)...)
		if !bytes.Equal(call(), want) {
			t.Error("memory is shared:", i)
		}
	}
	if !bytes.Equal(a, some(20)) || !bytes.Equal(b, some(30)) || len(parts) != 3 || parts[1] != nil {
		t.Error("an argument was changed")
	}
	whole, one := wire.Join(parts...), wire.Join(a)
	clear(a)
	clear(b)
	if !bytes.Equal(whole, append(some(20), some(30)...)) || !bytes.Equal(one, some(20)) {
		t.Error("an argument was kept")
	}
}
