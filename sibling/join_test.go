package sibling_test

import (
	"math/rand"
	"slices"
	"testing"

	"buttress/api"
	"buttress/sibling"
)

// join fails, unless Join tells of the sets just what the chapter's words say; it answers that.
func join(t *testing.T, of string, sets ...[]api.Record) []api.Record {
	t.Helper()
	all := slices.Concat(sets...)
	got, err := sibling.Join(sets...)
	if !alike(all) {
		if err != api.ErrShape || len(got) != 0 {
			t.Fatalf("%s: %s: %s, %v", of, show(sets), show(got), err)
		}
		return nil
	}
	if want := joined(all); err != api.OK || !same(got, want) {
		t.Fatalf("%s: %s: %s, %v", of, show(sets), show(got), err)
	}
	return got
}

// P9.2: of no sets, and of sets without records, there is none.
func TestJoinNone(t *testing.T) {
	for _, sets := range [][][]api.Record{nil, {}, {nil}, {{}}, {nil, {}, nil}} {
		if got := join(t, "none", sets...); len(got) != 0 {
			t.Error(show(got))
		}
	}
}

// P9.2: what is left of known records, given at once, one by one, and the other way round.
func TestJoinKnown(t *testing.T) {
	a, b, c := write(1, 1), write(2, 1), write(2, 2, 1, 1, 2, 1)
	for name, one := range map[string]struct{ all, want []api.Record }{
		"one":                           {[]api.Record{c}, []api.Record{c}},
		"the chapter's, two":            {[]api.Record{a, b}, []api.Record{a, b}},
		"the chapter's, three":          {[]api.Record{a, b, c}, []api.Record{c}},
		"the chapter's, twice":          {[]api.Record{a, a}, []api.Record{a}},
		"the chapter's, each other":     {[]api.Record{write(1, 1, 2, 1), write(2, 1, 1, 1)}, nil},
		"three in a round":              {[]api.Record{write(1, 1, 2, 1), write(2, 1, 3, 1), write(3, 1, 1, 1)}, nil},
		"a round, and one beside":       {[]api.Record{write(1, 1, 2, 1), write(2, 1, 1, 1), write(3, 1)}, []api.Record{write(3, 1)}},
		"a round, and one over it":      {[]api.Record{write(1, 1, 2, 1), write(2, 1, 1, 1), write(3, 1, 1, 1, 2, 1)}, []api.Record{write(3, 1, 1, 1, 2, 1)}},
		"a round that is over one":      {[]api.Record{write(1, 1, 2, 1, 4, 1), write(2, 1, 1, 1), write(4, 1)}, nil},
		"two of one client":             {[]api.Record{write(1, 1), write(1, 2)}, []api.Record{write(1, 1), write(1, 2)}},
		"two of one client, seen":       {[]api.Record{write(1, 1), write(1, 2, 1, 1)}, []api.Record{write(1, 2, 1, 1)}},
		"seen, the elder one alone":     {[]api.Record{write(1, 1), write(1, 2), write(2, 1, 1, 1)}, []api.Record{write(1, 2), write(2, 1, 1, 1)}},
		"a row that skips one":          {[]api.Record{write(1, 1), write(2, 1, 1, 1), write(3, 1, 2, 1)}, []api.Record{write(3, 1, 2, 1)}},
		"a row that skips two":          {[]api.Record{write(1, 1), write(2, 1, 1, 1), write(3, 1, 2, 1), write(4, 1, 3, 1)}, []api.Record{write(4, 1, 3, 1)}},
		"a row that falls":              {[]api.Record{write(1, 1, 2, 1), write(2, 1, 3, 1), write(3, 1)}, []api.Record{write(1, 1, 2, 1)}},
		"seen by one of two":            {[]api.Record{write(1, 1), write(2, 1, 1, 1), write(3, 1)}, []api.Record{write(2, 1, 1, 1), write(3, 1)}},
		"seen what is not there":        {[]api.Record{write(1, 5), write(2, 1, 1, 4, 3, 9)}, []api.Record{write(1, 5), write(2, 1, 1, 4, 3, 9)}},
		"one dot, of which one is over": {[]api.Record{write(1, 1), write(2, 1), write(2, 1, 1, 1)}, []api.Record{write(1, 1), write(2, 1)}},
		"one dot, the lesser one over":  {[]api.Record{write(1, 1), write(2, 1, 1, 1), write(2, 1, 1, 1, 3, 1), write(3, 1)}, []api.Record{write(2, 1, 1, 1), write(3, 1)}},
		"one dot, both under another":   {[]api.Record{write(1, 1), value(write(1, 1), "x"), write(2, 1, 1, 1)}, []api.Record{write(2, 1, 1, 1)}},
		"numbers that rise as numbers":  {[]api.Record{write(1, 256), write(1, 255), write(1, 2), write(1, 10)}, []api.Record{write(1, 2), write(1, 10), write(1, 255), write(1, 256)}},
		"clients ahead of numbers":      {[]api.Record{write(3, 1), write(2, 2), write(1, 3)}, []api.Record{write(1, 3), write(2, 2), write(3, 1)}},
	} {
		single, back := [][]api.Record{}, slices.Clone(one.all)
		slices.Reverse(back)
		for i := range one.all {
			single = append(single, one.all[i:i+1])
		}
		for _, sets := range [][][]api.Record{{one.all}, {back}, single, {one.all, back}, {nil, one.all, {}}, {one.all, one.all}} {
			if got := join(t, name, sets...); !same(got, one.want) {
				t.Fatalf("%s: %s", name, show(got))
			}
		}
	}
}

// P9.2: all rows of one to three small records, in each order, at once and in parts.
func TestJoinSmall(t *testing.T) {
	all := few()
	for _, a := range all {
		for _, b := range all {
			join(t, "two", []api.Record{a}, []api.Record{b})
			for _, c := range all {
				join(t, "three", []api.Record{a, b, c})
				join(t, "one and two", []api.Record{a}, []api.Record{b, c})
			}
		}
	}
}

// P9.2: more of them, in sets that are neither right nor rise.
func TestJoinMixed(t *testing.T) {
	rnd := rand.New(rand.NewSource(92))
	for range 8000 {
		all := anyWrites(rnd, 14, 1+rnd.Intn(8), 1<<rnd.Intn(12))
		join(t, "mixed", parts(rnd, all)...)
	}
	for range 20 {
		all := anyWrites(rnd, 400, 8, 100)
		join(t, "many", parts(rnd, all)...)
	}
}

// P9.2: of two of one dot that one is left whose bytes are the least, part by part: the first one that differs decides.
func TestLeast(t *testing.T) {
	turn := func(context []int, gone bool, v string, sig byte) api.Record {
		return with(write(4, 9, context...), func(r *api.Record) { r.Gone, r.Value, r.Sig[63] = gone, []byte(v), sig })
	}
	rise := []api.Record{
		turn(nil, false, "", 0),
		turn(nil, false, "", 1),
		turn(nil, false, "", 255),
		turn(nil, false, "\x00", 0),
		turn(nil, false, "a", 9),
		turn(nil, false, "b", 3),
		turn(nil, false, "\xff", 0),
		turn(nil, false, "aa", 0),
		turn(nil, false, "ab", 0),
		turn(nil, false, "ba", 0),
		turn(nil, false, string(make([]byte, 255)), 0),
		turn(nil, false, string(make([]byte, 256)), 0),
		turn(nil, true, "", 0),
		turn(nil, true, "", 7),
		turn([]int{1, 1}, false, "", 0),
		turn([]int{1, 1}, false, "", 255),
		turn([]int{1, 1}, false, "a", 0),
		turn([]int{1, 1}, true, "", 0),
		turn([]int{1, 255}, false, "", 0),
		turn([]int{1, 256}, false, "", 0),
		turn([]int{2, 1}, false, "", 0),
		turn([]int{4, 8}, false, "", 0),
		turn([]int{8, 1}, false, "", 0),
		turn([]int{1, 1, 2, 1}, false, "", 0),
		turn([]int{1, 1, 3, 1}, false, "", 0),
		turn([]int{1, 2, 2, 1}, false, "", 0),
	}
	for i, a := range rise {
		for k, b := range rise {
			want := rise[min(i, k) : min(i, k)+1]
			for _, sets := range [][][]api.Record{{{a, b}}, {{a}, {b}}, {{a}, nil, {b, a}}} {
				if got := join(t, "two of one dot", sets...); !same(got, want) {
					t.Fatalf("%d, %d: %s", i, k, show(got))
				}
			}
		}
	}
	rnd := rand.New(rand.NewSource(93))
	for range 500 {
		all := append(mixed(rnd, rise)[:1+rnd.Intn(len(rise))], write(4, 8), write(4, 10), write(3, 9))
		join(t, "many of one dot", parts(rnd, mixed(rnd, all))...)
	}
}

// P9.2: with one record that is not right, wherever it stands, and though another one would be over it or stand in its place, nothing is joined.
func TestJoinWrong(t *testing.T) {
	over := write(3, 1, 2, 1<<30)
	for name, bad := range wrong() {
		for at := range 4 {
			set := slices.Insert([]api.Record{write(1, 1), write(2, 5), over}, at, bad)
			single := [][]api.Record{}
			for i := range set {
				single = append(single, set[i:i+1])
			}
			for _, sets := range [][][]api.Record{{set}, single, {nil, {bad}, nil}, {set[:at], set[at:]}, {set[at:], set[:at]}, {{over}, {bad}}, {{bad, bad}}} {
				if got, err := sibling.Join(sets...); err != api.ErrShape || len(got) != 0 {
					t.Fatalf("%s at %d: %s, %v", name, at, show(got), err)
				}
			}
		}
	}
}

// P9.2: records of unlike keys are not joined, wherever they stand, though each set is right by itself.
func TestJoinKeys(t *testing.T) {
	for _, keys := range [][2]string{{"k", "l"}, {"k", "kk"}, {"kk", "k"}, {"k", "K"}, {"k", "k\x00"}, {"\xff", "\xfe"}, {"é", "e"}, {string(some(64)), string(some(63))}} {
		of := func(key string, client, seq int, context ...int) api.Record {
			return with(write(client, seq, context...), func(r *api.Record) { r.Key = key })
		}
		a, b, c := of(keys[0], 1, 1), of(keys[0], 2, 1), of(keys[0], 3, 1, 1, 1, 2, 1)
		for _, other := range []api.Record{of(keys[1], 1, 1), of(keys[1], 4, 1), of(keys[1], 4, 1, 1, 1, 2, 1, 3, 1), of(keys[1], 2, 9)} {
			for _, sets := range [][][]api.Record{{{a}, {other}}, {{other}, {a}}, {{a, other}}, {{a, b, other}}, {{a, b, c}, nil, {other}}, {nil, {other}, {a, b}}, {{a, other, b}}} {
				if got, err := sibling.Join(sets...); err != api.ErrShape || len(got) != 0 {
					t.Fatalf("%q: %s: %s, %v", keys, show(sets), show(got), err)
				}
			}
		}
		for i, key := range keys {
			if got, err := sibling.Join([]api.Record{of(key, 2, 1)}, []api.Record{of(key, 1, 1)}); err != api.OK || !same(got, []api.Record{of(key, 1, 1), of(key, 2, 1)}) {
				t.Fatalf("%q, %d: %s, %v", keys, i, show(got), err)
			}
		}
	}
}
