package record_test

import (
	"bytes"
	"math"
	"math/rand"
	"slices"
	"strings"
	"testing"

	"buttress/api"
	"buttress/record"
)

// get fails, unless Get tells of b just what the chapter's words say; whether they say that it is a record's.
func get(t *testing.T, b []byte, of string) bool {
	t.Helper()
	want, ok := parsed(b)
	r, err := record.Get(b)
	if !ok {
		if err != api.ErrShape {
			t.Fatalf("%s: %s: %s, %v", of, show(b), show(r), err)
		}
		nothing(t, r, of)
		return false
	}
	if err != api.OK || !same(r, want) {
		t.Fatalf("%s: %s: %s, %v", of, show(b), show(r), err)
	}
	return true
}

// P8.2, P8.4: a right record's bytes are its text and its signature; what is put is got, and put as the same. Of others there are none.
func TestPutGet(t *testing.T) {
	for _, r := range records() {
		b, err := record.Put(r)
		if !isRight(r) {
			if err != api.ErrShape || len(b) != 0 {
				t.Fatalf("%s: %s, %v", show(r), show(b), err)
			}
			continue
		}
		if err != api.OK || !bytes.Equal(b, bytesOf(r)) {
			t.Fatalf("%s: %s, %v", show(r), show(b), err)
		}
		got, err := record.Get(b)
		if err != api.OK || !same(got, r) {
			t.Fatalf("%s: got %s, %v", show(r), show(got), err)
		}
		if again, err := record.Put(got); err != api.OK || !bytes.Equal(again, b) {
			t.Fatalf("%s: put again %s, %v", show(r), show(again), err)
		}
	}
}

// P8.2: bytes that would be those of a record that is not right are none's.
func TestGetOfWrong(t *testing.T) {
	wrong := 0
	for _, r := range records() {
		if !get(t, bytesOf(r), "whole bytes") {
			wrong++
		}
	}
	if wrong < 500 {
		t.Error("few wrong records:", wrong)
	}
}

// few are right records of few and of many bytes.
func few() []api.Record {
	return []api.Record{
		one(),
		{Key: "k", Client: 1, Seq: 1, Sig: make([]byte, 64)},
		{Key: "k", Client: 8, Seq: 1 << 30, Gone: true, Sig: some(64)},
		{Key: "\x00", Client: 1, Seq: 1, Value: make([]byte, 20), Sig: make([]byte, 64)},
		{Key: string(some(64)), Client: 5, Seq: 77, Context: of(1, 1, 2, 1, 3, 1, 4, 1, 5, 76, 6, 1, 7, 1, 8, 1<<30), Value: some(1024), Sig: some(64)},
		{Key: strings.Repeat("\x01", 9), Client: 1, Seq: 1, Context: of(2, 1), Value: bytes.Repeat([]byte{1}, 9), Sig: bytes.Repeat([]byte{1}, 64)},
	}
}

// P8.2: bytes that are cut anywhere, from behind or from ahead, are no record's.
func TestCut(t *testing.T) {
	for _, r := range few() {
		b := bytesOf(r)
		if !get(t, b, "all bytes") {
			t.Fatal(show(r))
		}
		for n := range b {
			if get(t, b[:n], "cut behind") {
				t.Fatalf("%s: %d bytes", show(r), n)
			}
			if n > 0 && get(t, b[n:], "cut ahead") {
				t.Fatalf("%s: without %d bytes", show(r), n)
			}
			get(t, slices.Delete(slices.Clone(b), n, n+1), "one byte out")
		}
	}
	for i, b := range [][]byte{nil, {}, {1}, make([]byte, 64), make([]byte, 107), make([]byte, 5000), bytes.Repeat([]byte{1}, 300), bytes.Repeat([]byte{255}, 300)} {
		if get(t, b, "no record") {
			t.Error(i)
		}
	}
}

// P8.2: bytes with more behind or ahead are no record's; with one more within they may be another one's.
func TestLonger(t *testing.T) {
	for _, r := range few() {
		b := bytesOf(r)
		for _, x := range []byte{0, 1, 2, 64, 128, 255} {
			for at := range len(b) + 1 {
				if get(t, slices.Insert(slices.Clone(b), at, x), "one byte more") && (at == 0 || at == len(b)) {
					t.Fatalf("%s: %d at %d", show(r), x, at)
				}
			}
		}
		for _, more := range [][]byte{some(8), some(64), make([]byte, 64), b, make([]byte, 1<<16)} {
			if get(t, slices.Concat(b, more), "more behind") || get(t, slices.Concat(more, b), "more ahead") {
				t.Fatalf("%s: %d bytes more", show(r), len(more))
			}
		}
	}
}

// P8.2: with one byte turned, to each other one, they are the bytes of no record, or of just another one, whose bytes they are.
func TestTurned(t *testing.T) {
	for _, r := range few() {
		b := bytesOf(r)
		for k := range b {
			for x := range 256 {
				if x != int(b[k]) && (len(b) < 300 || x%16 == 5 || x < 3) {
					turn(t, r, b, k, byte(x))
				}
			}
		}
	}
}

// turn puts x in place of byte k of a record's bytes, asks, and puts the byte back.
func turn(t *testing.T, r api.Record, b []byte, k int, x byte) {
	t.Helper()
	was := b[k]
	b[k] = x
	if get(t, b, "turned") {
		got, _ := record.Get(b)
		if own, err := record.Put(got); same(got, r) || err != api.OK || !bytes.Equal(own, b) {
			t.Fatalf("%s: byte %d as %d: %s, %v", show(r), k, x, show(got), err)
		}
	}
	b[k] = was
}

// P8.2: bytes with several turned, left out or put in, in whatever places.
func TestMixed(t *testing.T) {
	rnd := rand.New(rand.NewSource(82))
	for range 30000 {
		b := bytesOf(few()[rnd.Intn(4)])
		for range 1 + rnd.Intn(4) {
			at, x := rnd.Intn(len(b)), byte(rnd.Intn(1<<(1+rnd.Intn(8))))
			switch rnd.Intn(3) {
			case 0:
				b[at] = x
			case 1:
				b = slices.Delete(b, at, at+1)
			case 2:
				b = slices.Insert(b, at, x)
			}
		}
		get(t, b, "mixed")
	}
}

// P8.2: single bytes and numbers that say no record's, each in its place: what a text begins with, lengths, the clients, whether it is gone.
func TestPlaces(t *testing.T) {
	r := api.Record{Key: "key", Client: 2, Seq: 5, Context: of(1, 3), Sig: some(64)}
	const key, client, seq, dots, gone, value = 1, 12, 20, 28, 52, 53
	for x := range 256 {
		first, last := bytesOf(r), bytesOf(r)
		first[0], last[gone] = byte(x), byte(x)
		if get(t, first, "what it begins with") != (x == 1) || get(t, last, "whether it is gone") != (x < 2) {
			t.Fatal(x)
		}
	}
	far := []int{math.MinInt, math.MinInt + 1, -1 << 32, -8, -1, 0, 1, 2, 3, 4, 5, 8, 9, 60, 64, 65, 72, 1024, 1025, 1 << 30, 1<<30 + 1, 1 << 31, 1<<32 + 1, 1<<32 + 2, 1<<32 + 3, 1 << 40, 1 << 62, math.MaxInt - 8, math.MaxInt}
	for place, want := range map[int]func(n int) bool{
		key:    func(n int) bool { return n == 3 },
		client: func(n int) bool { return isDot(n, 5) }, // of 1 too, of whose writes three were seen
		seq:    func(n int) bool { return isDot(2, n) },
		dots:   func(n int) bool { return n == 1 },
		value:  func(n int) bool { return n == 0 },
	} {
		for _, n := range far {
			b := bytesOf(r)
			copy(b[place:], number(nil, n))
			if get(t, b, "a number") != want(n) {
				t.Fatalf("%d at %d", n, place)
			}
		}
	}
}

// P8.2: rows of bytes that are of no kind at all.
func TestAnyBytes(t *testing.T) {
	rnd := rand.New(rand.NewSource(83))
	for range 20000 {
		b := make([]byte, rnd.Intn(1<<rnd.Intn(10)))
		rnd.Read(b)
		if len(b) > 0 {
			b[0] = 1
		}
		get(t, b, "any bytes")
	}
}

// P8.4: two records of one text are the same, but for the signature.
func TestOneText(t *testing.T) {
	byText := map[string]api.Record{}
	texts := 0
	for _, r := range append(append(records(), beside()...), few()...) {
		text := string(record.Text(r))
		if text == "" {
			continue
		}
		r.Sig = nil
		other, there := byText[text]
		if there && !same(other, r) {
			t.Fatalf("%s, %s: %s", show(other), show(r), show(text))
		}
		if !there {
			texts++
		}
		byText[text] = r
	}
	if texts < 1000 {
		t.Error("few texts:", texts)
	}
	// What stands at the end of one part could stand at the beginning of the next one.
	a := api.Record{Key: "k", Client: 1, Seq: 1, Value: []byte("v")}
	for i, turn := range []func(r *api.Record){
		func(r *api.Record) { r.Key, r.Value = "kv", nil },
		func(r *api.Record) { r.Key = "k\x00" },
		func(r *api.Record) { r.Value = []byte("v\x00") },
		func(r *api.Record) { r.Value = nil },
		func(r *api.Record) { r.Gone, r.Value = true, nil },
		func(r *api.Record) { r.Client = 2 },
		func(r *api.Record) { r.Seq = 2 },
		func(r *api.Record) { r.Context = of(2, 1) },
		func(r *api.Record) { r.Client, r.Context = 2, of(1, 1) },
	} {
		b := copied(a)
		turn(&b)
		if bytes.Equal(record.Text(a), record.Text(b)) || len(record.Text(b)) == 0 {
			t.Error(i)
		}
	}
}
