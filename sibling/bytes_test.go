package sibling_test

import (
	"bytes"
	"math"
	"math/rand"
	"runtime"
	"slices"
	"strings"
	"testing"

	"buttress/api"
	"buttress/sibling"
)

// get fails, unless Get tells of b just what the chapter's words say; whether they say that it is a set's.
func get(t *testing.T, b []byte, of string) bool {
	t.Helper()
	want, ok := parsed(b)
	set, err := sibling.Get(b)
	if !ok {
		if err != api.ErrShape || len(set) != 0 {
			t.Fatalf("%s: %x: %s, %v", of, b[:min(len(b), 900)], show(set), err)
		}
		return false
	}
	if err != api.OK || !same(set, want) {
		t.Fatalf("%s: %x: %s, %v", of, b[:min(len(b), 900)], show(set), err)
	}
	if again, err := sibling.Put(set); err != api.OK || !bytes.Equal(again, b) {
		t.Fatalf("%s: %s: put again %x, %v", of, show(set), again, err)
	}
	return true
}

// sets are right ones, of no record, of one, and of some.
func sets() [][]api.Record {
	gone := with(write(7, 3, 1, 4), func(r *api.Record) { r.Gone = true })
	full := with(write(8, 1<<30, 1, 1<<30, 2, 1, 3, 1, 4, 1, 5, 1, 6, 1, 7, 1, 8, 1<<30-1), func(r *api.Record) {
		r.Key, r.Value = string(some(64)), some(1024)
	})
	return [][]api.Record{
		{},
		{write(1, 1)},
		{gone},
		{write(1, 1), write(1, 2)},
		{value(write(1, 5), "value"), write(2, 1, 1, 4), gone},
		{full},
	}
}

// P9.3: bytes written out.
func TestKnownBytes(t *testing.T) {
	sig := strings.Repeat("s", 64)
	r := api.Record{Key: "a", Client: 1, Seq: 1, Value: []byte("x"), Sig: []byte(sig)}
	q := api.Record{Key: "a", Client: 2, Seq: 258, Context: dots(3, 1), Gone: true, Sig: []byte(sig)}
	none := "\x00\x00\x00\x00\x00\x00\x00\x00"
	one := "\x00\x00\x00\x00\x00\x00\x00\x01"
	first := "\x00\x00\x00\x00\x00\x00\x00\x6c" + "\x01" + one + "a" + one + one + none + "\x00" + one + "x" + sig
	second := "\x00\x00\x00\x00\x00\x00\x00\x7b" + "\x01" + one + "a" + "\x00\x00\x00\x00\x00\x00\x00\x02" + "\x00\x00\x00\x00\x00\x00\x01\x02" + one + "\x00\x00\x00\x00\x00\x00\x00\x03" + one + "\x01" + none + sig
	for i, c := range []struct {
		set  []api.Record
		want string
	}{
		{nil, none},
		{[]api.Record{}, none},
		{[]api.Record{r}, one + first},
		{[]api.Record{r, q}, "\x00\x00\x00\x00\x00\x00\x00\x02" + first + second},
	} {
		b, err := sibling.Put(c.set)
		if err != api.OK || string(b) != c.want {
			t.Errorf("%d: %q, %v", i, b, err)
		}
		if set, err := sibling.Get([]byte(c.want)); err != api.OK || !same(set, c.set) {
			t.Errorf("%d: %s, %v", i, show(set), err)
		}
	}
}

// P9.3: what is put of a row that is no right set would be: of it nothing is got. All rows of up to three small records, in each order.
func TestGetSmall(t *testing.T) {
	all, right := few(), 0
	for _, a := range all {
		get(t, setBytes([]api.Record{a}), "one")
		for _, b := range all {
			get(t, setBytes([]api.Record{a, b}), "two")
			for _, c := range all {
				if get(t, setBytes([]api.Record{a, b, c}), "three") {
					right++
				}
			}
		}
	}
	if right < 5 {
		t.Error("few sets of three:", right)
	}
}

// P9.3: nor of a row with one record that is not right, wherever it stands, or of unlike keys.
func TestGetOfWrong(t *testing.T) {
	other := with(write(2, 5, 1, 3), func(r *api.Record) { r.Key = "l" })
	bad := wrong()
	bad["another key"] = other
	for name, r := range bad {
		for at := range 3 {
			if get(t, setBytes(slices.Insert([]api.Record{write(1, 9), write(8, 7)}, at, r)), name) {
				t.Error(name, at)
			}
		}
		if get(t, setBytes([]api.Record{r}), name) != (name == "another key") {
			t.Error(name)
		}
	}
}

// P9.3: bytes that are cut anywhere, from behind or from ahead, or that go on, are no set's.
func TestCut(t *testing.T) {
	for _, set := range sets() {
		b := setBytes(set)
		if !get(t, b, "all bytes") {
			t.Fatal(show(set))
		}
		for n := range b {
			if get(t, b[:n], "cut behind") || n > 0 && get(t, b[n:], "cut ahead") {
				t.Fatalf("%s: %d bytes", show(set), n)
			}
			get(t, slices.Delete(slices.Clone(b), n, n+1), "one byte out")
			for _, x := range []byte{0, 1, 255} {
				get(t, slices.Insert(slices.Clone(b), n, x), "one byte more")
			}
		}
		for _, more := range [][]byte{{0}, {1}, {255}, make([]byte, 8), make([]byte, 64), b, setBytes(sets()[1])[8:]} {
			if get(t, slices.Concat(b, more), "more behind") {
				t.Fatalf("%s: %d bytes more", show(set), len(more))
			}
		}
	}
	for i, b := range [][]byte{nil, {}, {0}, make([]byte, 7), make([]byte, 9), make([]byte, 16), bytes.Repeat([]byte{1}, 300), bytes.Repeat([]byte{255}, 300)} {
		if get(t, b, "no set") {
			t.Error(i)
		}
	}
}

// P9.3: with one byte turned they are no set's, or just another one's, whose bytes they are.
func TestTurned(t *testing.T) {
	for _, set := range sets() {
		b := setBytes(set)
		for k := range b {
			was := b[k]
			for x := range 256 {
				if len(b) < 200 || x%32 == 5 || x < 4 || x == int(was^1) {
					b[k] = byte(x)
					if get(t, b, "turned") && b[k] != was {
						if got, _ := sibling.Get(b); same(got, set) {
							t.Fatalf("%s: byte %d as %d", show(set), k, x)
						}
					}
				}
			}
			b[k] = was
		}
	}
}

// P9.3, R1: numbers in the place of how many records there are, and of how many bytes one has, at, about and far off what is there: nothing is taken on for them.
func TestCounts(t *testing.T) {
	set := []api.Record{write(1, 1), write(2, 1)}
	size := len(bytesOf(set[0]))
	places := map[int]int{0: 2, 8: size, 16 + size: size}
	for _, n := range []int{math.MinInt, math.MinInt + 2, -1 << 32, -2, -1, 0, 1, 2, 3, 4, 8, size - 1, size, size + 1, 2 * size, 1 << 16, 1 << 28, 1<<31 - 1, 1 << 31, 1 << 32, 1<<32 + 2, 1<<32 + size, 1 << 40, 1 << 62, math.MaxInt - 8, math.MaxInt} {
		for at, is := range places {
			b := setBytes(set)
			copy(b[at:], number(nil, n))
			var ahead, behind runtime.MemStats
			runtime.ReadMemStats(&ahead)
			got, err := sibling.Get(b)
			runtime.ReadMemStats(&behind)
			if (err == api.OK) != (n == is) || err != api.OK && (err != api.ErrShape || len(got) != 0) {
				t.Errorf("%d at %d: %s, %v", n, at, show(got), err)
			}
			if taken := behind.TotalAlloc - ahead.TotalAlloc; taken > 1<<16 {
				t.Errorf("%d at %d: %d bytes were taken on", n, at, taken)
			}
		}
		if n != 0 && get(t, number(nil, n), "a number alone") {
			t.Error(n)
		}
	}
	huge := make([]byte, 1<<24)
	for _, n := range []int{0, 1, 1<<24 - 8, 1 << 24, 1 << 21, math.MaxInt} {
		copy(huge, number(nil, n))
		if get(t, huge, "very many bytes") {
			t.Error(n)
		}
	}
}

// P9.3: bytes with several turned, left out or put in, in whatever places.
func TestMixedBytes(t *testing.T) {
	rnd := rand.New(rand.NewSource(94))
	for range 10000 {
		b := setBytes(sets()[rnd.Intn(5)])
		for range 1 + rnd.Intn(4) {
			at, x := rnd.Intn(len(b)), byte(rnd.Intn(1<<(1+rnd.Intn(8))))
			switch rnd.Intn(3) {
			case 0:
				b[at] = x
			case 1:
				b = slices.Delete(b, at, at+1)
			case 2:
				b = slices.Insert(b, at, x)
			}
		}
		get(t, b, "mixed")
	}
}
