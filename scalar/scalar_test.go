package scalar_test

import (
	"bytes"
	"math/big"
	"math/rand"
	"slices"
	"testing"

	"buttress/scalar"
)

// check holds an answer against the number whose right scalar it must be.
func check(t *testing.T, what string, got []byte, want *big.Int, of ...*big.Int) {
	t.Helper()
	if !bytes.Equal(got, raw32(mod(want))) {
		t.Fatalf("%s of %x: %x, not %x", what, of, got, raw32(mod(want)))
	}
}

// P3.1: numbers of up to 64 bytes, each of the lengths that hold it.
func TestReduce(t *testing.T) {
	for _, n := range numbers(512) {
		least := (n.BitLen() + 7) / 8
		for _, size := range []int{least, least + 1, 31, 32, 33, 63, 64} {
			if size >= least && size <= 64 {
				check(t, "Reduce", scalar.Reduce(raw(n, size)), n, n)
			}
		}
	}
}

// P3.1: each bit counts, and stands in its place.
func TestReduceBits(t *testing.T) {
	for k := range uint(512) {
		b := make([]byte, 64)
		b[k/8] = 1 << (k % 8)
		check(t, "Reduce", scalar.Reduce(b), power2(k), power2(k))
	}
}

// P3.1: bytes of each length; of more than 64 there is none.
func TestReduceLength(t *testing.T) {
	r := rand.New(rand.NewSource(31))
	for size := range 67 {
		some := make([]byte, size)
		r.Read(some)
		for _, b := range [][]byte{make([]byte, size), bytes.Repeat([]byte{0xff}, size), some} {
			got := scalar.Reduce(b)
			if size > 64 {
				if len(got) != 0 {
					t.Fatalf("%d bytes: %x", size, got)
				}
				continue
			}
			check(t, "Reduce", got, value(b), value(b))
		}
	}
	check(t, "Reduce", scalar.Reduce(nil), new(big.Int))
	if got := scalar.Reduce(make([]byte, 1<<20)); len(got) != 0 {
		t.Errorf("many bytes: %x", got)
	}
}

// P3.1: 32 bytes of a number below the order are right.
func TestRight(t *testing.T) {
	for _, n := range numbers(256) {
		if scalar.Right(raw32(n)) != (n.Cmp(order) < 0) {
			t.Fatalf("%x", n)
		}
	}
}

// P3.1: each part of a number is held against the order's: one that is above it in one byte, and below it in all others, and the other way round.
func TestRightParts(t *testing.T) {
	l := raw32(order)
	for i := range l {
		for _, by := range []int{-1, 1} {
			for _, others := range []byte{0, 0xff} {
				b := bytes.Repeat([]byte{others}, 32)
				copy(b[i:], l[i:])
				b[i] += byte(by)
				if want := value(b).Cmp(order) < 0; scalar.Right(b) != want {
					t.Errorf("%x: not %v", b, want)
				}
			}
		}
	}
}

// P3.1: bytes of other lengths are no scalars, whatever number they stand for.
func TestRightLength(t *testing.T) {
	for size := range 67 {
		b := make([]byte, size)
		if scalar.Right(b) != (size == 32) {
			t.Error(size)
		}
		if size > 0 {
			b[0] = 7
			if scalar.Right(b) != (size == 32) {
				t.Error(size, "of 7")
			}
		}
	}
	if scalar.Right(nil) || scalar.Right(raw(plus(order, -1), 33)) || scalar.Right(raw(plus(order, -1), 64)) || scalar.Right(make([]byte, 1<<20)) {
		t.Error("a long or no scalar")
	}
}

// P3.2: products and sums of numbers at the edges, right scalars or not.
func TestMulAdd(t *testing.T) {
	n := new(big.Int)
	all := few(90)
	for _, x := range all {
		for _, y := range all {
			for _, z := range all[:12] {
				want := n.Add(n.Mul(x, y), z)
				check(t, "MulAdd", scalar.MulAdd(raw32(x), raw32(y), raw32(z)), want, x, y, z)
			}
			check(t, "MulAdd", scalar.MulAdd(raw32(all[5]), raw32(x), raw32(y)), n.Add(n.Mul(all[5], x), y), all[5], x, y)
		}
	}
}

// P3.2: words of noughts and ones in all three, so that sums carry over each part.
func TestMulAddCarry(t *testing.T) {
	n := new(big.Int)
	for i := range 16 {
		for k := range 16 {
			for j := range 16 {
				x, y, z := stripes(i), stripes(k), stripes(j)
				check(t, "MulAdd", scalar.MulAdd(raw32(x), raw32(y), raw32(z)), n.Add(n.Mul(x, y), z), x, y, z)
			}
		}
	}
}

// P3.2: each bit of a factor times each bit of the other one stands in its place.
func TestMulAddBits(t *testing.T) {
	none := make([]byte, 32)
	for i := range uint(256) {
		for k := range uint(256) {
			x, y := power2(i), power2(k)
			check(t, "MulAdd", scalar.MulAdd(raw32(x), raw32(y), none), power2(i+k), x, y)
		}
		check(t, "MulAdd", scalar.MulAdd(none, none, raw32(power2(i))), power2(i), power2(i))
	}
}

// P3.2: ordinary numbers.
func TestMulAddSome(t *testing.T) {
	r := rand.New(rand.NewSource(32))
	n := new(big.Int)
	for range 5000 {
		a, b, c := some(r), some(r), some(r)
		check(t, "MulAdd", scalar.MulAdd(a, b, c), n.Add(n.Mul(value(a), value(b)), value(c)), value(a), value(b), value(c))
	}
}

func some(r *rand.Rand) []byte {
	b := make([]byte, 32)
	r.Read(b)
	return b
}

// P3.2: each of the three has 32 bytes, or there is none.
func TestMulAddLength(t *testing.T) {
	one := raw32(big.NewInt(1))
	for size := range 67 {
		if size == 32 {
			continue
		}
		other := make([]byte, size)
		for i, got := range [][]byte{
			scalar.MulAdd(other, one, one),
			scalar.MulAdd(one, other, one),
			scalar.MulAdd(one, one, other),
			scalar.MulAdd(other, other, other),
		} {
			if len(got) != 0 {
				t.Errorf("%d bytes, %d: %x", size, i, got)
			}
		}
	}
	for i, got := range [][]byte{scalar.MulAdd(nil, one, one), scalar.MulAdd(one, nil, one), scalar.MulAdd(one, one, nil), scalar.MulAdd(nil, nil, nil)} {
		if len(got) != 0 {
			t.Errorf("nil, %d: %x", i, got)
		}
	}
}

// P3.3: the bit at 8 i + k is whether b[i] has 2 to the power k.
func TestBits(t *testing.T) {
	all := [][]byte{make([]byte, 32), bytes.Repeat([]byte{0xff}, 32)}
	for k := range uint(256) {
		all = append(all, raw32(power2(k)))
	}
	r := rand.New(rand.NewSource(33))
	for range 100 {
		all = append(all, some(r))
	}
	for _, n := range few(50) {
		all = append(all, raw32(n))
	}
	for _, b := range all {
		got := scalar.Bits(b)
		if len(got) != 256 {
			t.Fatalf("%x: %d bits", b, len(got))
		}
		for i := range b {
			for k := range 8 {
				if got[8*i+k] != (b[i]&(1<<k) != 0) {
					t.Fatalf("%x: %d", b, 8*i+k)
				}
			}
		}
	}
}

// P3.3: bytes of other lengths have none.
func TestBitsLength(t *testing.T) {
	for size := range 67 {
		if got := scalar.Bits(bytes.Repeat([]byte{1}, size)); (len(got) != 0) != (size == 32) {
			t.Error(size, got)
		}
	}
	if got := scalar.Bits(nil); len(got) != 0 {
		t.Error(got)
	}
}

// P3.4: what is right stays; what was reduced is right.
func TestReduceTwice(t *testing.T) {
	for _, n := range numbers(512) {
		once := scalar.Reduce(raw(n, 64))
		if !scalar.Right(once) || !bytes.Equal(scalar.Reduce(once), once) {
			t.Fatalf("%x: %x", n, once)
		}
		if n.Cmp(order) < 0 && !bytes.Equal(once, raw32(n)) {
			t.Fatalf("%x is right, and became %x", n, once)
		}
	}
}

// P3.4: products and sums of what was reduced, in either order.
func TestMulAddLaws(t *testing.T) {
	all := few(30)
	for _, x := range all {
		for _, y := range all {
			for _, z := range all {
				a, b, c := raw32(x), raw32(y), raw32(z)
				got := scalar.MulAdd(a, b, c)
				if !scalar.Right(got) || !bytes.Equal(got, scalar.MulAdd(b, a, c)) {
					t.Fatalf("%x, %x, %x: %x", x, y, z, got)
				}
				if !bytes.Equal(got, scalar.MulAdd(scalar.Reduce(a), scalar.Reduce(b), scalar.Reduce(c))) {
					t.Fatalf("reduced ahead: %x, %x, %x", x, y, z)
				}
			}
		}
	}
}

// R3, R4: arguments are neither changed nor kept, answers are new memory and each time alike.
func TestMemory(t *testing.T) {
	a, b, c := raw32(plus(order, -7)), raw32(plus(order, 9)), raw32(plus(power2(256), -3))
	sums := func() [][]byte {
		return [][]byte{scalar.Reduce(a), scalar.Reduce(b), scalar.Reduce(append(slices.Clone(b), c...)), scalar.MulAdd(a, b, c), scalar.MulAdd(a, a, a)}
	}
	want, bits := sums(), scalar.Bits(c)
	for i, n := range []*big.Int{plus(order, -7), plus(order, 9), plus(power2(256), -3)} {
		if !bytes.Equal([][]byte{a, b, c}[i], raw32(n)) {
			t.Error("an argument was changed:", i)
		}
	}
	for _, sum := range sums() {
		clear(sum)
	}
	clear(scalar.Bits(c))
	for i, sum := range sums() {
		if !bytes.Equal(sum, want[i]) {
			t.Error("memory is shared:", i)
		}
	}
	if !slices.Equal(scalar.Bits(c), bits) {
		t.Error("memory is shared: bits")
	}
	clear(a)
	if !bytes.Equal(want[0], raw32(plus(order, -7))) {
		t.Error("an answer is its argument")
	}
}

// The chapter's examples.
func TestExamples(t *testing.T) {
	one, none := raw32(big.NewInt(1)), make([]byte, 32)
	l := []byte{
		0xed, 0xd3, 0xf5, 0x5c, 0x1a, 0x63, 0x12, 0x58, 0xd6, 0x9c, 0xf7, 0xa2, 0xde, 0xf9, 0xde, 0x14,
		0, 0, 0, 0, 0, 0, 0, 0, 0, 0, 0, 0, 0, 0, 0, 0x10,
	}
	if got := scalar.Reduce([]byte{1}); !bytes.Equal(got, one) {
		t.Errorf("Reduce of 1: %x", got)
	}
	if got := scalar.Reduce(l); !bytes.Equal(got, none) {
		t.Errorf("Reduce of L: %x", got)
	}
	if got := scalar.MulAdd(raw32(big.NewInt(2)), raw32(big.NewInt(3)), raw32(big.NewInt(4))); !bytes.Equal(got, raw32(big.NewInt(10))) {
		t.Errorf("2 times 3, and 4: %x", got)
	}
	if scalar.Right(bytes.Repeat([]byte{0xff}, 32)) {
		t.Error("ff is right")
	}
	for i, bit := range scalar.Bits(one) {
		if bit != (i == 0) {
			t.Error("the bits of 1:", i)
		}
	}
}

func BenchmarkReduce(b *testing.B) {
	n := bytes.Repeat([]byte{0xa5}, 64)
	for b.Loop() {
		scalar.Reduce(n)
	}
}

func BenchmarkMulAdd(b *testing.B) {
	n := bytes.Repeat([]byte{0xa5}, 32)
	for b.Loop() {
		scalar.MulAdd(n, n, n)
	}
}
