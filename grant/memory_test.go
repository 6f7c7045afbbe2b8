package grant_test

import (
	"bytes"
	"reflect"
	"slices"
	"testing"

	"buttress/api"
	"buttress/grant"
)

// roomy are three() with room behind them, and behind each key, that holds something.
func roomy() []api.Grant {
	l := append(three(), to(5, "room"))
	for i := range l {
		l[i].Public = append(l[i].Public, "room"...)[:32]
	}
	return l[:3]
}

// roomyRecords are records that may be, and some that may not, with room behind them and behind each of their lists, that holds something.
func roomyRecords() []api.Record {
	all := []api.Record{write(1, "a/x"), write(8, "a/b"), write(4, "b"), bent(write(4, "c")), write(1, "b"), {Sig: some(64)}, write(4, "room")}
	for i := range all {
		r := &all[i]
		r.Context = append(r.Context, api.Dot{Client: 8, Seq: 9})[:len(r.Context)]
		r.Value = append(r.Value, "room"...)[:len(r.Value)]
		r.Sig = append(r.Sig, "room"...)[:len(r.Sig)]
	}
	return all[:6]
}

// whole fails, unless grants and records are those that were made, with what stands behind them and their lists.
func whole(t *testing.T, l []api.Grant, all []api.Record) {
	t.Helper()
	for i, g := range roomy()[:4] {
		is := l[:4][i]
		if !same(is, g) || !bytes.Equal(is.Public[:36], g.Public[:36]) {
			t.Errorf("grant %d was changed: %s", i, show(is))
		}
	}
	for i, r := range roomyRecords()[:7] {
		is := all[:7][i]
		if !reflect.DeepEqual(is, r) ||
			!slices.Equal(is.Context[:len(is.Context)+1], r.Context[:len(r.Context)+1]) ||
			!bytes.Equal(is.Value[:len(is.Value)+4], r.Value[:len(r.Value)+4]) || !bytes.Equal(is.Sig[:len(is.Sig)+4], r.Sig[:len(r.Sig)+4]) {
			t.Errorf("record %d was changed: %s", i, show(is))
		}
	}
}

// R3: what was given stays as it was, with what stands behind it, whatever is asked.
func TestGiven(t *testing.T) {
	l, all := roomy(), roomyRecords()
	for range 2 {
		grant.Right(l)
		for client := -1; client <= 9; client++ {
			grant.Find(l, client)
		}
		grant.May(l)
		grant.May(l, all...)
		grant.May(l, all[1:]...)
		for at := range all {
			grant.May(l, all[at])
			grant.May(l[1:], all[at:]...)
			grant.May(slices.Repeat(l, 2), all[at:]...)
		}
	}
	whole(t, l, all)
}

// R3: what Find tells lies apart from what was given, and from what it told before: each may change without the others.
func TestFoundApart(t *testing.T) {
	for _, client := range []int{1, 4, 8} {
		l := roomy()
		want, _ := first(three(), client)
		g, ok := grant.Find(l, client)
		twice, _ := grant.Find(l, client)
		if !ok || !same(g, want) || !same(twice, want) {
			t.Fatal(show(g), show(twice), ok)
		}
		clear(g.Public[:cap(g.Public)])
		whole(t, l, roomyRecords())
		if !same(twice, want) {
			t.Error("what was told is one:", client)
		}
		for i := range l {
			clear(l[i].Public[:cap(l[i].Public)])
		}
		clear(l[:cap(l)])
		if !same(twice, want) {
			t.Error("what was given is kept:", client)
		}
	}
	l := []api.Grant{{Client: 3, Public: []byte("room")[:0]}} // a key without bytes has room behind it too
	g, _ := grant.Find(l, 3)
	g.Public = append(g.Public, "else"...)
	if string(l[0].Public[:4]) != "room" {
		t.Error("room is shared")
	}
}

// R3, R4: each call tells alike each time, whatever was asked ahead of it, and keeps nothing of what it was given.
func TestAlike(t *testing.T) {
	l, all := three(), roomyRecords()
	want := []api.Errno{api.OK, api.OK, api.OK, api.ErrSig, api.ErrGrant, api.ErrShape}
	for range 3 {
		for at, r := range all {
			if err := grant.May(l, r); err != want[at] {
				t.Error(at, err)
			}
		}
		if err := grant.May(l, all...); err != api.ErrSig {
			t.Error(err)
		}
		if !grant.Right(l) || grant.Right(slices.Repeat(l, 2)) {
			t.Error("right")
		}
	}
	r := write(4, "b")
	l[1].Prefix = "c"
	if err := grant.May(l, r); err != api.ErrGrant {
		t.Error("an elder prefix is kept:", err)
	}
	l[1] = api.Grant{Client: 4, Public: publics[5]}
	if err := grant.May(l, r); err != api.ErrSig {
		t.Error("an elder key is kept:", err)
	}
	l[1].Client = 5
	if err := grant.May(l, r); err != api.ErrGrant {
		t.Error("an elder client is kept:", err)
	}
}
