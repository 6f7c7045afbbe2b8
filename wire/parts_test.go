package wire_test

import (
	"bytes"
	"math/rand"
	"testing"

	"buttress/wire"
)

// part is what is joined, and how it is read: whether the reader tells it.
type part struct {
	bytes []byte
	read  func(r *wire.Reader) bool
}

func bytePart(x byte) part {
	return part{[]byte{x}, func(r *wire.Reader) bool { return r.Byte() == x }}
}

func numberPart(n int) part {
	return part{wire.Number(n), func(r *wire.Reader) bool { return r.Number() == n }}
}

func countPart(n, most int) part {
	return part{wire.Number(n), func(r *wire.Reader) bool { return r.Count(most) == n }}
}

func bytesPart(b []byte, most int) part {
	return part{wire.Bytes(b), func(r *wire.Reader) bool { return bytes.Equal(r.Bytes(most), b) }}
}

// anyPart is one that r chooses.
func anyPart(r *rand.Rand) part {
	n := r.Intn(40)
	switch r.Intn(4) {
	case 0:
		return bytePart(byte(r.Intn(256)))
	case 1:
		return numberPart(int(r.Uint64() >> r.Intn(64)))
	case 2:
		return countPart(n, n+r.Intn(3))
	}
	return bytesPart(some(n), n+r.Intn(3))
}

// rows are of no part, of one of each kind, of parts of no bytes, and of many that are chosen.
func rows() [][]part {
	none, long := bytesPart(nil, 0), bytesPart(some(700), 1<<20)
	out := [][]part{
		{},
		{bytePart(0)},
		{bytePart(255)},
		{numberPart(0)},
		{numberPart(-1)},
		{countPart(0, 0)},
		{countPart(6, 6)},
		{none},
		{bytesPart(some(1), 1)},
		{none, none, none},
		{none, bytePart(0), none, numberPart(0), none},
		{long, none, long},
		{bytePart(0), bytePart(0), numberPart(0), bytesPart(make([]byte, 20), 20)},
	}
	r := rand.New(rand.NewSource(64))
	for range 200 {
		var row []part
		for range r.Intn(12) {
			row = append(row, anyPart(r))
		}
		out = append(out, row)
	}
	return out
}

func joined(row []part) []byte {
	var all [][]byte
	for _, p := range row {
		all = append(all, p.bytes)
	}
	return wire.Join(all...)
}

// P6.4: what was joined is read, part by part, and then the reader is done, and not ahead of it.
func TestReadBack(t *testing.T) {
	for i, row := range rows() {
		r := wire.NewReader(joined(row))
		for k, p := range row {
			state(t, r, true, false, "ahead of a part")
			if !p.read(r) || !r.Good() {
				t.Fatalf("row %d, part %d", i, k)
			}
		}
		state(t, r, true, true, "behind the last part")
	}
}

// P6.4: of no beginning, cut anywhere, the reader is done; the parts that are whole are told, and those behind them are not.
func TestCut(t *testing.T) {
	for i, row := range rows() {
		all := joined(row)
		for n := range all {
			r := wire.NewReader(all[:n])
			end := 0
			for k, p := range row {
				end += len(p.bytes)
				if told := p.read(r); end <= n && !told {
					t.Fatalf("row %d, cut at %d: part %d", i, n, k)
				}
				if r.Good() != (end <= n) {
					t.Fatalf("row %d, cut at %d: good %v behind part %d", i, n, r.Good(), k)
				}
			}
			state(t, r, false, false, "cut")
		}
	}
}

// P6.3, P6.4: what goes on behind the parts is not done, but good.
func TestMore(t *testing.T) {
	for i, row := range rows() {
		r := wire.NewReader(append(joined(row), 0))
		for k, p := range row {
			if !p.read(r) {
				t.Fatalf("row %d, part %d", i, k)
			}
		}
		state(t, r, true, false, "one more byte")
		if r.Byte() != 0 || !r.Done() {
			t.Fatalf("row %d: the byte behind it", i)
		}
	}
}

// The chapter's examples.
func TestExamples(t *testing.T) {
	if got := wire.Number(258); !bytes.Equal(got, []byte{0, 0, 0, 0, 0, 0, 1, 2}) {
		t.Errorf("Number of 258: %x", got)
	}
	if got := wire.Number(-1); !bytes.Equal(got, bytes.Repeat([]byte{0xff}, 8)) {
		t.Errorf("Number of -1: %x", got)
	}
	if got := wire.Bytes([]byte("ab")); !bytes.Equal(got, wire.Join(wire.Number(2), []byte("ab"))) {
		t.Errorf("Bytes of ab: %x", got)
	}
	r := wire.NewReader(wire.Join(wire.Bytes([]byte("a")), wire.Number(7)))
	if a, n := r.Bytes(1), r.Number(); string(a) != "a" || n != 7 || !r.Done() {
		t.Errorf("%q, %d, done %v", a, n, r.Done())
	}
	if x := r.Byte(); x != 0 || r.Good() || r.Done() {
		t.Errorf("behind the end: %d, good %v", x, r.Good())
	}
}

func BenchmarkRead(b *testing.B) {
	row := wire.Join(wire.Number(7), wire.Bytes(some(64)), []byte{1})
	for b.Loop() {
		r := wire.NewReader(row)
		r.Number()
		r.Bytes(64)
		r.Byte()
	}
}
