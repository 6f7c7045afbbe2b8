package sibling_test

import (
	"bytes"
	"slices"
	"testing"

	"buttress/api"
	"buttress/sibling"
)

// roomy are three records beside each other that fall, and two that are left out, with room behind them and behind each of their lists, which holds something.
func roomy() []api.Record {
	all := []api.Record{
		value(write(3, 1, 5, 1), "three"),
		value(write(2, 7, 5, 2), "two"),
		value(write(1, 1, 5, 3), "one"),
		value(write(1, 1, 5, 4), "a greater one"),
		value(write(5, 1), "five"),
		value(write(8, 8, 1, 9), "room"),
	}
	for i := range all {
		r := &all[i]
		r.Context = append(r.Context, dots(8, 8, 8, 9)...)[:len(r.Context)]
		r.Value = append(r.Value, "room"...)[:len(r.Value)]
		r.Sig = append(r.Sig, "room"...)[:len(r.Sig)]
	}
	return all[:5]
}

// rising are those of roomy that are left, a right set.
func rising() []api.Record {
	all := roomy()
	all[0], all[2] = all[2], all[0]
	return all[:3]
}

// whole says whether records are those that were made, with what stands behind them and behind their lists.
func whole(all, made []api.Record) bool {
	for i, r := range all[:cap(all)] {
		c, v, s := r.Context, r.Value, r.Sig
		if i < 6 && (!slices.Equal(c[:len(c)+2][len(c):], dots(8, 8, 8, 9)) || string(v[:len(v)+4][len(v):]) != "room" || string(s[:len(s)+4][len(s):]) != "room") {
			return false
		}
	}
	return len(all) == len(made) && same(all[:cap(all)], made[:cap(made)])
}

// wipe clears all that records and their lists have, with the room behind them.
func wipe(all []api.Record) {
	for _, r := range all[:cap(all)] {
		clear(r.Context[:cap(r.Context)])
		clear(r.Value[:cap(r.Value)])
		clear(r.Sig[:cap(r.Sig)])
	}
	clear(all[:cap(all)])
}

// R3: what was given stays as it was, with what stands behind it, whatever is asked.
func TestGiven(t *testing.T) {
	all, set := roomy(), rising()
	bad := roomy()
	bad[4].Value = make([]byte, 1025, 1030)
	b := append(setBytes(set), "room"...)
	long := len(b) - 4
	rows := [][]api.Record{all, set, nil}
	for range 2 {
		sibling.Right(all)
		sibling.Right(set)
		sibling.Put(all)
		sibling.Put(set)
		sibling.Get(b[:long])
		sibling.Get(b)
		sibling.Join(all)
		sibling.Join(set)
		sibling.Join(rows...)
		sibling.Join(all[3:], all[1:], set[:1])
		sibling.Join(bad)
		sibling.Join(all, bad)
	}
	if !whole(all, roomy()) || !whole(set, rising()) || !bytes.Equal(b, append(setBytes(rising()), "room"...)) {
		t.Error("what was given was changed")
	}
	if len(rows[0]) != 5 || &rows[0][0] != &all[0] || len(rows[1]) != 3 || &rows[1][0] != &set[0] || rows[2] != nil {
		t.Error("the row of sets was changed")
	}
	if !same(bad[:4], roomy()[:4]) || len(bad[4].Value) != 1025 {
		t.Error("what is not right was changed")
	}
}

// R3: what is told lies apart from what was given: of both one may change without the other.
func TestToldApart(t *testing.T) {
	want := copies(rising())
	for i, of := range [][][]api.Record{{roomy()}, {rising()}, {roomy(), rising()}, {nil, rising(), nil}, {rising()[:1], rising()[1:]}} {
		got := mustJoin(t, of...)
		for _, set := range of {
			wipe(set)
		}
		if !same(got, want) {
			t.Errorf("%d: what was given is kept: %s", i, show(got))
		}
	}
	for _, made := range []func() []api.Record{roomy, rising} {
		all := made()
		wipe(mustJoin(t, all))
		wipe(mustJoin(t, all, all))
		if !whole(all, made()) {
			t.Error("what is told is what was given")
		}
	}
	set := rising()
	b := setBytes(set)
	got, _ := sibling.Get(b)
	put, _ := sibling.Put(set)
	wipe(set)
	clear(b)
	if !same(got, want) || !bytes.Equal(put, setBytes(want)) {
		t.Error("what was given is kept")
	}
	set = rising()
	put, _ = sibling.Put(set)
	clear(put[:cap(put)])
	b = setBytes(set)
	got, _ = sibling.Get(b)
	wipe(got)
	if !whole(set, rising()) || !bytes.Equal(b, setBytes(want)) {
		t.Error("what is told is what was given")
	}
}

// R3, R4: each call tells new memory, and each time alike.
func TestToldTwice(t *testing.T) {
	all, set := roomy(), rising()
	b := setBytes(set)
	for range 3 {
		joined := mustJoin(t, all, set)
		put, _ := sibling.Put(set)
		got, _ := sibling.Get(b)
		if !same(joined, set) || !bytes.Equal(put, b) || !same(got, set) {
			t.Fatal("memory is shared")
		}
		wipe(joined)
		wipe(got)
		clear(put[:cap(put)])
	}
}

// shared are records beside each other that have their lists' memory from each other.
func shared() []api.Record {
	common := dots(5, 1, 6, 1)
	long := some(200)
	return []api.Record{
		{Key: "k", Client: 1, Seq: 1, Context: common, Value: long[:64], Sig: long[:64]},
		{Key: "k", Client: 2, Seq: 1, Context: common, Value: long[:64], Sig: long[64:128]},
		{Key: "k", Client: 3, Seq: 1, Context: common[1:], Value: long[:100], Sig: long[:64]},
	}
}

// R3: no two lists of one answer share memory, though those that were given do: what is put behind one of them, or is cleared, does nothing to the others.
func TestListsApart(t *testing.T) {
	want := copies(shared())
	for i := range want {
		for list := range 3 {
			joined := mustJoin(t, shared(), shared())
			got, _ := sibling.Get(setBytes(want))
			for _, set := range [][]api.Record{joined, got} {
				was := copies(set)
				switch r := &set[i]; list {
				case 0:
					clear(r.Context[:cap(r.Context)])
					was[i].Context = r.Context
				case 1:
					clear(r.Value[:cap(r.Value)])
					was[i].Value = r.Value
				case 2:
					clear(r.Sig[:cap(r.Sig)])
					was[i].Sig = r.Sig
				}
				if !same(set, was) {
					t.Fatalf("record %d, list %d", i, list)
				}
			}
		}
	}
}
