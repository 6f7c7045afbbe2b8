package wire_test

import (
	"bytes"
	"math"
	"runtime"
	"testing"

	"buttress/wire"
)

// ask is one of the calls that read; what it tells is 0, none, where tells is false.
type ask struct {
	name  string
	tells func(r *wire.Reader) bool
}

func asks() []ask {
	return []ask{
		{"Byte", func(r *wire.Reader) bool { return r.Byte() != 0 }},
		{"Number", func(r *wire.Reader) bool { return r.Number() != 0 }},
		{"Count", func(r *wire.Reader) bool { return r.Count(math.MaxInt) != 0 }},
		{"Bytes", func(r *wire.Reader) bool { return len(r.Bytes(math.MaxInt)) != 0 }},
		{"Count of at most 0", func(r *wire.Reader) bool { return r.Count(0) != 0 }},
		{"Bytes of at most 0", func(r *wire.Reader) bool { return len(r.Bytes(0)) != 0 }},
		{"Count of at most -1", func(r *wire.Reader) bool { return r.Count(-1) != 0 }},
		{"Bytes of at most -1", func(r *wire.Reader) bool { return len(r.Bytes(-1)) != 0 }},
	}
}

// silent fails, unless the reader is not good, and stays so, whatever it is asked: each call tells 0, none.
func silent(t *testing.T, r *wire.Reader, of string) {
	t.Helper()
	for _, one := range asks() {
		for range 2 {
			if r.Good() || r.Done() {
				t.Fatalf("%s: good, or done, ahead of %s", of, one.name)
			}
			if one.tells(r) {
				t.Fatalf("%s: %s told", of, one.name)
			}
		}
	}
	if r.Good() || r.Done() {
		t.Fatalf("%s: good, or done", of)
	}
}

// state fails, unless the reader is good, and done, as it must be.
func state(t *testing.T, r *wire.Reader, good, done bool, of string) {
	t.Helper()
	if r.Good() != good || r.Done() != done {
		t.Fatalf("%s: good %v, done %v", of, r.Good(), r.Done())
	}
}

// P6.2, P6.3: a new reader is good, and done where there are no bytes; nothing is read by asking so.
func TestNewReader(t *testing.T) {
	for _, b := range [][]byte{nil, {}, some(3)[:0]} {
		r := wire.NewReader(b)
		for range 3 {
			state(t, r, true, true, "no bytes")
		}
	}
	for _, b := range [][]byte{{0}, {1}, some(7), some(8), some(100)} {
		r := wire.NewReader(b)
		for range 3 {
			state(t, r, true, false, "some bytes")
		}
		if got := r.Byte(); got != b[0] {
			t.Errorf("%x: %d", b, got)
		}
	}
}

// P6.2: each byte is told, in its place, and then there are none.
func TestByte(t *testing.T) {
	var all []byte
	for x := range 256 {
		all = append(all, byte(x))
	}
	r := wire.NewReader(all)
	for x := range 256 {
		state(t, r, true, false, "ahead of the end")
		if got := r.Byte(); got != byte(x) {
			t.Fatalf("%d: %d", x, got)
		}
	}
	state(t, r, true, true, "the end")
	if got := r.Byte(); got != 0 {
		t.Error("behind the end:", got)
	}
	silent(t, r, "behind the end")
}

// P6.2: the number of the next eight bytes, whatever stands behind them.
func TestReadNumber(t *testing.T) {
	for _, n := range numbers() {
		for _, behind := range []int{0, 1, 9} {
			r := wire.NewReader(append(eight(n), some(behind)...))
			if got := r.Number(); got != n {
				t.Fatalf("%d: %d", n, got)
			}
			state(t, r, true, behind == 0, "a number")
			for i := range behind {
				if got := r.Byte(); got != some(behind)[i] {
					t.Fatalf("%d: behind it %d", n, got)
				}
			}
			state(t, r, true, true, "the end")
		}
	}
}

// P6.2: of fewer than eight bytes there is no number, and no row of bytes.
func TestFewBytes(t *testing.T) {
	for _, one := range asks()[1:] {
		for n := range 8 {
			for _, b := range [][]byte{make([]byte, n), bytes.Repeat([]byte{255}, n), some(n)} {
				for _, ahead := range []int{0, 1, 20} {
					r := wire.NewReader(append(some(ahead), b...))
					for range ahead {
						r.Byte()
					}
					state(t, r, true, n == 0, one.name)
					if one.tells(r) {
						t.Fatalf("%s of %x: told", one.name, b)
					}
					silent(t, r, one.name)
				}
			}
		}
	}
}

// mosts are bounds about a number, and far off it.
func mosts(n int) []int {
	out := []int{math.MinInt, -1, 0, 1, math.MaxInt, n}
	if n > math.MinInt {
		out = append(out, n-1)
	}
	if n < math.MaxInt {
		out = append(out, n+1)
	}
	return out
}

// P6.2: a number is a count, if it is from 0 to most.
func TestCount(t *testing.T) {
	for _, n := range numbers() {
		for _, most := range mosts(n) {
			r := wire.NewReader(append(eight(n), 7))
			want := 0
			if n >= 0 && n <= most {
				want = n
			}
			if got := r.Count(most); got != want {
				t.Fatalf("%d of at most %d: %d", n, most, got)
			}
			if n < 0 || n > most {
				silent(t, r, "no count")
				continue
			}
			state(t, r, true, false, "a count")
			if r.Byte() != 7 {
				t.Fatalf("%d: what stands behind it", n)
			}
			state(t, r, true, true, "the end")
		}
	}
}

// P6.2: bytes whose number is from 0 to most, and as many as stand there, or fewer.
func TestReadBytes(t *testing.T) {
	for _, n := range []int{0, 1, 2, 7, 8, 9, 255, 256, 300, 65536} {
		for _, there := range []int{0, 1, n - 1, n, n + 1, n + 8, 2 * n} {
			for _, most := range mosts(n) {
				if there >= 0 {
					readBytes(t, n, there, most)
				}
			}
		}
	}
}

// readBytes asks for the bytes of a number n ahead of so many bytes that stand there.
func readBytes(t *testing.T, n, there, most int) {
	t.Helper()
	b := some(there)
	r := wire.NewReader(append(eight(n), b...))
	got := r.Bytes(most)
	if n > most || n > there {
		if len(got) != 0 {
			t.Fatalf("%d bytes of %d, at most %d: %x", n, there, most, got)
		}
		silent(t, r, "no bytes")
		return
	}
	if !bytes.Equal(got, b[:n]) {
		t.Fatalf("%d bytes of %d, at most %d: %x", n, there, most, got)
	}
	state(t, r, true, n == there, "bytes")
	for _, x := range b[n:] {
		if r.Byte() != x {
			t.Fatalf("%d bytes of %d: what stands behind them", n, there)
		}
	}
	state(t, r, true, true, "the end")
}

// P6.2: numbers that are far more than stands there, or below 0, are of no bytes; nothing is taken on for them.
func TestFarBytes(t *testing.T) {
	far := []int{1 << 16, 1 << 28, 1 << 31, 1<<31 - 1, 1 << 32, 1<<32 + 3, 1 << 40, 1 << 62, math.MaxInt - 8, math.MaxInt, -1, -3, -8, -1 << 32, math.MinInt, math.MinInt + 3}
	for _, n := range far {
		for _, most := range mosts(n) {
			r := wire.NewReader(append(eight(n), "abc"...))
			var ahead, behind runtime.MemStats
			runtime.ReadMemStats(&ahead)
			got := r.Bytes(most)
			runtime.ReadMemStats(&behind)
			if len(got) != 0 {
				t.Errorf("%d: %x", n, got)
			}
			if taken := behind.TotalAlloc - ahead.TotalAlloc; taken > 1<<15 {
				t.Errorf("%d: %d bytes were taken on", n, taken)
			}
			silent(t, r, "far more")
		}
	}
}

// P6.2, P6.3: a reader that is not good stays so, though what it is asked next stands there.
func TestStaysBad(t *testing.T) {
	whole := func() []byte {
		return wire.Join(wire.Number(3), []byte("abc"), wire.Number(1), wire.Bytes([]byte("de")), []byte{9})
	}
	for name, wrong := range map[string]func(r *wire.Reader) bool{
		"a count that is more":  func(r *wire.Reader) bool { return r.Count(2) != 0 },
		"a count below 0":       func(r *wire.Reader) bool { return r.Count(-1) != 0 },
		"bytes that are more":   func(r *wire.Reader) bool { return len(r.Bytes(2)) != 0 },
		"at most -1":            func(r *wire.Reader) bool { return len(r.Bytes(-1)) != 0 },
		"at most the least one": func(r *wire.Reader) bool { return len(r.Bytes(math.MinInt)) != 0 },
		"bytes behind the end":  func(r *wire.Reader) bool { r.Byte(); return len(r.Bytes(math.MaxInt)) != 0 },
	} {
		r := wire.NewReader(whole())
		if wrong(r) {
			t.Error(name, "told")
		}
		silent(t, r, name)
	}
	r := wire.NewReader(whole())
	if got := string(r.Bytes(3)); got != "abc" || r.Count(1) != 1 || string(r.Bytes(2)) != "de" || r.Byte() != 9 || !r.Done() {
		t.Error("the right asks")
	}
}

// R5: what NewReader did not answer is no reader, and does nothing to the one that it was copied of.
func TestNoReader(t *testing.T) {
	of := wire.NewReader(wire.Bytes([]byte("abc")))
	copied := *of
	taken := *wire.NewReader(some(30))
	var none *wire.Reader
	for _, r := range []*wire.Reader{none, {}, new(wire.Reader), &copied, &taken} {
		silent(t, r, "no reader")
	}
	state(t, of, true, false, "copied")
	if got := string(of.Bytes(3)); got != "abc" || !of.Done() {
		t.Errorf("copied: %q", got)
	}
}

// P6.2: readers have nothing of each other, though they are of the same bytes.
func TestTwoReaders(t *testing.T) {
	b := wire.Join(wire.Number(5), wire.Bytes([]byte("abc")))
	one, two := wire.NewReader(b), wire.NewReader(b)
	if one.Count(4) != 0 || one.Good() {
		t.Error("the first")
	}
	if two.Count(5) != 5 || string(two.Bytes(3)) != "abc" || !two.Done() {
		t.Error("the second")
	}
}

// R3: a reader keeps nothing that it was given, and what it tells is new memory.
func TestReaderMemory(t *testing.T) {
	row := func() []byte {
		return wire.Join(wire.Bytes([]byte("abc")), wire.Bytes(nil), wire.Bytes([]byte("defg")), wire.Number(3))
	}
	b := row()
	r := wire.NewReader(b)
	if !bytes.Equal(b, row()) {
		t.Error("an argument was changed")
	}
	clear(b)
	abc := r.Bytes(3)
	_ = append(abc, some(30)...)
	none := r.Bytes(3)
	_ = append(none, some(30)...)
	defg := r.Bytes(4)
	clear(abc)
	_ = append(defg, some(30)...)
	if string(defg) != "defg" || r.Count(3) != 3 || !r.Done() {
		t.Errorf("%q, %v", defg, r.Good())
	}
	if !bytes.Equal(b, make([]byte, len(b))) {
		t.Error("an argument was changed later")
	}
}
