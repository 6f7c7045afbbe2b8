package grant_test

import (
	"math/rand"
	"slices"
	"testing"

	"buttress/api"
	"buttress/grant"
)

// pool are records of all clients and of several keys, as they were sealed, bent, by others than those who signed them, and of no right shape.
func pool() []api.Record {
	var out []api.Record
	for client := 1; client <= 8; client++ {
		for _, key := range []string{"a", "a/", "a/x", "a/b", "b"} {
			out = append(out, write(client, key))
		}
		out = append(out, bent(write(client, "a/x")))
		out = append(out, with(write(client, "a/b"), func(r *api.Record) { r.Client = client%8 + 1 }))
	}
	bad := wrong()
	return append(out, bad["nothing at all"], bad["a key of 65"], bad["client 9"], bad["no signature"])
}

// anyGrants are right grants of clients that r chooses.
func anyGrants(r *rand.Rand, has func(client int) bool) []api.Grant {
	var l []api.Grant
	for client := 1; client <= 8; client++ {
		if has(client) {
			l = append(l, to(client, []string{"", "", "a", "a/", "a/b", "b"}[r.Intn(6)]))
		}
	}
	return l
}

// P10.3: May of a row is OK just if it is of each one by itself; else it is what it is of the first one of which it is not.
func TestRowAndEach(t *testing.T) {
	rnd := rand.New(rand.NewSource(103))
	all := pool()
	oks := 0
	for range 1000 {
		l := anyGrants(rnd, func(int) bool { return rnd.Intn(6) > 0 })
		var row []api.Record
		want := api.OK
		for range rnd.Intn(6) {
			r := all[rnd.Intn(len(all))]
			err := grant.May(l, r)
			if err != api.OK && rnd.Intn(8) > 0 { // most of those that a row has may be
				continue
			}
			row = append(row, r)
			if want == api.OK {
				want = err
			}
		}
		is(t, want, "a row", l, row...)
		if want == api.OK && len(row) > 1 {
			oks++
		}
		at := rnd.Intn(len(row) + 1) // nor does it hang on how a row is put together
		if a, b := grant.May(l, row[:at]...), grant.May(l, row[at:]...); (a == api.OK && b == api.OK) != (want == api.OK) {
			t.Fatalf("%s: %d and %d, not %d", show(row), int(a), int(b), int(want))
		}
	}
	if oks < 150 {
		t.Error("few rows of some that may:", oks)
	}
}

// P10.3: a grant more, of a client that wrote none of the records, makes no difference, nor what it has; one of theirs does.
func TestGrantMore(t *testing.T) {
	rnd := rand.New(rand.NewSource(104))
	all := pool()
	oks, turns := 0, 0
	for range 300 {
		other := 1 + rnd.Intn(8)
		l := anyGrants(rnd, func(client int) bool { return client != other && rnd.Intn(8) > 0 })
		row := []api.Record{all[rnd.Intn(len(all))]}
		if rnd.Intn(2) == 0 {
			row = append(row, all[rnd.Intn(len(all))])
		}
		want := may(t, "without it", l, row...)
		at := 0
		for at < len(l) && l[at].Client < other {
			at++
		}
		for _, g := range []api.Grant{to(other, ""), to(other, "a/x"), {Client: other, Public: publics[other%8+1], Prefix: "b"}, {Client: other, Public: make([]byte, 32)}} {
			err := may(t, "a grant more", slices.Insert(slices.Clone(l), at, g), row...)
			if slices.ContainsFunc(row, func(r api.Record) bool { return r.Client == other }) {
				if err != want {
					turns++
				}
				continue
			}
			if err != want {
				t.Fatalf("%s, %s more: %s: %d, not %d", show(l), show(g), show(row), int(err), int(want))
			}
			if err == api.OK {
				oks++
			}
		}
	}
	if oks < 100 || turns < 20 {
		t.Error("few that may, or few of its own client's:", oks, turns)
	}
}
