package record_test

import (
	"bytes"
	"slices"
	"testing"

	"buttress/api"
	"buttress/record"
	"buttress/sign"
)

// roomy is one(), with room behind each of its lists, which holds something.
func roomy() api.Record {
	r := one()
	r.Context = append(r.Context, of(8, 8, 8, 9)...)[:len(r.Context)]
	r.Value = append(r.Value, "room"...)[:len(r.Value)]
	r.Sig = append(r.Sig, "room"...)[:len(r.Sig)]
	return r
}

// whole says whether a record is roomy() still, with what stands behind its lists.
func whole(r api.Record) bool {
	return same(r, one()) &&
		slices.Equal(r.Context[:5][3:], of(8, 8, 8, 9)) && string(r.Value[:9][5:]) == "room" && string(r.Sig[:68][64:]) == "room"
}

// wipe clears all that a record's lists have, with the room behind them.
func wipe(r api.Record) {
	clear(r.Context[:cap(r.Context)])
	clear(r.Value[:cap(r.Value)])
	clear(r.Sig[:cap(r.Sig)])
}

// R3: what was given stays as it was, with what stands behind it, whatever is asked.
func TestGiven(t *testing.T) {
	seed, r, other := some(32), roomy(), roomy()
	public := sign.Public(seed)
	b := append(bytesOf(one()), "room"...)
	long := len(b) - 4
	for range 2 {
		record.Right(r)
		record.Text(r)
		record.Put(r)
		record.Get(b[:long])
		record.Get(b)
		record.Seal(seed, r)
		record.Seal(seed[:31], r)
		record.Check(public, r)
		record.Over(r, other)
	}
	if !whole(r) || !whole(other) {
		t.Error("a record was changed")
	}
	if !bytes.Equal(seed, some(32)) || !bytes.Equal(public, sign.Public(seed)) || !bytes.Equal(b, append(bytesOf(one()), "room"...)) {
		t.Error("bytes were changed")
	}
}

// R3: what is told lies apart from what was given: of both one may change without the other.
func TestToldApart(t *testing.T) {
	seed, r := some(32), roomy()
	want := sealed(seed, one())
	text := record.Text(r)
	put, _ := record.Put(r)
	b := bytesOf(one())
	got, _ := record.Get(b)
	of, _ := record.Seal(seed, r)
	clear(b)
	wipe(r)
	clear(seed)
	if !bytes.Equal(text, textOf(one())) || !bytes.Equal(put, bytesOf(one())) || !same(got, one()) || !same(of, want) {
		t.Error("what was given is kept")
	}
	r, seed = roomy(), some(32)
	of, _ = record.Seal(seed, r)
	wipe(of)
	text = record.Text(r)
	clear(text[:cap(text)])
	put, _ = record.Put(r)
	clear(put[:cap(put)])
	if !whole(r) || !bytes.Equal(seed, some(32)) {
		t.Error("what is told is what was given")
	}
}

// R3, R4: each call tells new memory, and each time alike.
func TestToldTwice(t *testing.T) {
	seed := some(32)
	for i, r := range few() {
		b := bytesOf(r)
		want := sealed(seed, r)
		for range 3 {
			text, put, got, of := record.Text(r), []byte{}, api.Record{}, api.Record{}
			put, _ = record.Put(r)
			got, _ = record.Get(b)
			of, _ = record.Seal(seed, r)
			if !bytes.Equal(text, textOf(r)) || !bytes.Equal(put, b) || !same(got, r) || !same(of, want) {
				t.Fatal("memory is shared:", i)
			}
			clear(text[:cap(text)])
			clear(put[:cap(put)])
			wipe(got)
			wipe(of)
		}
	}
}

// R3: no two lists of one answer share memory: what is put behind one of them, or is cleared, does nothing to the others.
func TestListsApart(t *testing.T) {
	b := bytesOf(one())
	for list := range 3 {
		got, _ := record.Get(b)
		of, _ := record.Seal(some(32), one())
		for _, x := range []api.Record{got, of} {
			was := copied(x)
			switch list {
			case 0:
				clear(x.Context[:cap(x.Context)])
				was.Context = x.Context
			case 1:
				clear(x.Value[:cap(x.Value)])
				was.Value = x.Value
			case 2:
				clear(x.Sig[:cap(x.Sig)])
				was.Sig = x.Sig
			}
			if !same(x, was) {
				t.Error("list", list)
			}
		}
	}
}

// R1: of very much, each call ends at once.
func TestVeryMuch(t *testing.T) {
	huge := make([]byte, 1<<24)
	for _, r := range []api.Record{
		with(func(r *api.Record) { r.Key = string(huge) }),
		with(func(r *api.Record) { r.Value = huge }),
		with(func(r *api.Record) { r.Sig = huge }),
		with(func(r *api.Record) { r.Context = make([]api.Dot, 1<<20) }),
	} {
		_, put := record.Put(r)
		if record.Right(r) || put != api.ErrShape || record.Check(nil, r) != api.ErrShape || record.Over(r, r) {
			t.Error("right")
		}
	}
	huge[0] = 1
	if get(t, huge, "very many bytes") {
		t.Error("got")
	}
}
