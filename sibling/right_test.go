package sibling_test

import (
	"math/rand"
	"slices"
	"testing"

	"buttress/api"
	"buttress/sibling"
)

// right fails, unless Right and Put tell of a row just what the chapter's words say; whether they say that it is a right set.
func right(t *testing.T, set []api.Record, of string) bool {
	t.Helper()
	want := isSet(set)
	b, err := sibling.Put(set)
	if got := sibling.Right(set); got != want {
		t.Fatalf("%s: %s: %v", of, show(set), got)
	}
	if want && (err != api.OK || string(b) != string(setBytes(set))) || !want && (err != api.ErrShape || len(b) != 0) {
		t.Fatalf("%s: %s: %x, %v", of, show(set), b, err)
	}
	return want
}

// P9.1, P9.3: rows of known records; the empty one is right.
func TestRight(t *testing.T) {
	other := func(r api.Record, key string) api.Record { return with(r, func(r *api.Record) { r.Key = key }) }
	for name, one := range map[string]struct {
		set  []api.Record
		want bool
	}{
		"none":                                {nil, true},
		"empty":                               {[]api.Record{}, true},
		"one":                                 {[]api.Record{write(1, 1)}, true},
		"one that saw others":                 {[]api.Record{write(8, 1<<30, 1, 1, 8, 1<<30-1)}, true},
		"two clients":                         {[]api.Record{write(1, 7), write(2, 1)}, true},
		"two clients that fall":               {[]api.Record{write(2, 1), write(1, 7)}, false},
		"two of one client":                   {[]api.Record{write(1, 1), write(1, 2)}, true},
		"two of one client that fall":         {[]api.Record{write(1, 2), write(1, 1)}, false},
		"one client's on both sides":          {[]api.Record{write(1, 1), write(2, 1), write(1, 2)}, false},
		"a lesser number of a greater client": {[]api.Record{write(1, 300), write(2, 255), write(2, 256), write(3, 1)}, true},
		"twice the same":                      {[]api.Record{write(1, 1), write(1, 1)}, false},
		"twice one dot, unlike":               {[]api.Record{value(write(1, 1), "a"), value(write(1, 1), "b")}, false},
		"twice one dot, behind others":        {[]api.Record{write(1, 1), write(2, 1), value(write(2, 1), "b")}, false},
		"the last over the first":             {[]api.Record{write(1, 1), write(2, 1), write(3, 1, 1, 1)}, false},
		"the first over the last":             {[]api.Record{write(1, 1, 3, 1), write(2, 1), write(3, 1)}, false},
		"one over its neighbour":              {[]api.Record{write(1, 1), write(2, 1, 1, 1)}, false},
		"a client's own, seen":                {[]api.Record{write(1, 1), write(1, 2, 1, 1)}, false},
		"an elder one of its own, seen":       {[]api.Record{write(1, 1), write(1, 9, 1, 3)}, false},
		"seen, but an elder one":              {[]api.Record{write(1, 4), write(2, 1, 1, 3)}, true},
		"seen just so":                        {[]api.Record{write(1, 4), write(2, 1, 1, 4)}, false},
		"seen, and more of it":                {[]api.Record{write(1, 4), write(2, 1, 1, 5)}, false},
		"two that saw each other":             {[]api.Record{write(1, 1, 2, 1), write(2, 1, 1, 1)}, false},
		"three that saw each other":           {[]api.Record{write(1, 1, 2, 1), write(2, 1, 3, 1), write(3, 1, 1, 1)}, false},
		"both saw a third, not there":         {[]api.Record{write(1, 2, 1, 1), write(2, 1, 1, 1)}, true},
		"the clients at the bounds":           {[]api.Record{write(1, 1), write(1, 1<<30), write(8, 1), write(8, 1<<30)}, true},
		"unlike keys":                         {[]api.Record{write(1, 1), other(write(2, 1), "l")}, false},
		"unlike keys, the longer one behind":  {[]api.Record{write(1, 1), other(write(2, 1), "kk")}, false},
		"unlike keys, the greater one":        {[]api.Record{write(1, 1), other(write(2, 1), "K")}, false},
		"unlike keys that saw each other":     {[]api.Record{write(1, 1), other(write(2, 1, 1, 1), "l")}, false},
		"keys that are no text":               {[]api.Record{other(write(1, 1), "\xff"), other(write(2, 1), "\xfe")}, false},
		"one key that is no text":             {[]api.Record{other(write(1, 1), "\xff"), other(write(2, 1), "\xff")}, true},
		"one is gone":                         {[]api.Record{with(write(1, 1), func(r *api.Record) { r.Gone = true }), value(write(2, 1), "x")}, true},
	} {
		if right(t, one.set, name) != one.want {
			t.Error(name)
		}
	}
}

// P9.1, P9.3: all rows of one to three small records, in each order.
func TestRightSmall(t *testing.T) {
	all, sets := few(), 0
	for _, a := range all {
		right(t, []api.Record{a}, "one")
		for _, b := range all {
			right(t, []api.Record{a, b}, "two")
			for _, c := range all {
				if right(t, []api.Record{a, b, c}, "three") {
					sets++
				}
			}
		}
	}
	if sets < 5 {
		t.Error("few sets of three:", sets)
	}
}

// P9.1, P9.3: greater rows, of which most were joined ahead, and have then one thing turned.
func TestRightMixed(t *testing.T) {
	rnd := rand.New(rand.NewSource(91))
	sets := 0
	for range 5000 {
		set := joined(anyWrites(rnd, 12, 8, 1<<rnd.Intn(20)))
		if len(set) > 0 {
			switch rnd.Intn(4) {
			case 0:
				set = mixed(rnd, set)
			case 1:
				set = slices.Insert(set, rnd.Intn(len(set)), set[rnd.Intn(len(set))])
			case 2:
				set[rnd.Intn(len(set))] = anyWrite(rnd, 8, 4)
			}
		}
		if right(t, set, "mixed") && len(set) > 3 {
			sets++
		}
	}
	if sets < 200 {
		t.Error("few sets of many:", sets)
	}
}

// P9.1, P9.3: with one record that is not right, wherever it stands, no row is.
func TestRightOfWrong(t *testing.T) {
	for name, bad := range wrong() {
		for at := range 4 {
			set := []api.Record{write(1, 1), write(2, 1), write(8, 7)}
			if right(t, slices.Insert(set, at, bad), name) || right(t, []api.Record{bad}, name) || right(t, []api.Record{bad, bad}, name) {
				t.Error(name, at)
			}
		}
	}
}

// many are so many writes beside each other, rising, of all clients.
func many(n int) []api.Record {
	var out []api.Record
	for k := range n {
		client := 1 + k*8/n
		out = append(out, value(write(client, 1+k), string(some(k%5))))
	}
	return out
}

// P9.1 to P9.3: a set has no bound of its own.
func TestMany(t *testing.T) {
	for _, n := range []int{8, 16, 17, 18, 64, 255, 256, 257, 1000, 4000} {
		set := many(n)
		if n <= 1000 && !right(t, set, "many") || !sibling.Right(set) {
			t.Fatal(n)
		}
		b, err := sibling.Put(set)
		if err != api.OK || string(b) != string(setBytes(set)) {
			t.Fatal(n, err)
		}
		if got, err := sibling.Get(b); err != api.OK || !same(got, set) {
			t.Fatal(n, err, len(got))
		}
		if got, err := sibling.Join(set[n/2:], nil, set[:n/2]); err != api.OK || !same(got, set) {
			t.Fatal(n, err, len(got))
		}
		over := write(3, 1<<30, 1, 1<<30, 2, 1<<30, 3, 1<<30-1, 4, 1<<30, 5, 1<<30, 6, 1<<30, 7, 1<<30, 8, 1<<30)
		for _, sets := range [][][]api.Record{{set, {over}}, {{over}, set}, {append(slices.Clone(set), over)}} {
			if got, err := sibling.Join(sets...); err != api.OK || !same(got, []api.Record{over}) {
				t.Fatal(n, err, len(got))
			}
		}
	}
}

// R1: what is very much too long is told at once.
func TestVeryMuch(t *testing.T) {
	huge := make([]byte, 1<<24)
	for _, r := range []api.Record{
		with(write(1, 1), func(r *api.Record) { r.Key = string(huge) }),
		with(write(1, 1), func(r *api.Record) { r.Value = huge }),
		with(write(1, 1), func(r *api.Record) { r.Sig = huge }),
		with(write(1, 1), func(r *api.Record) { r.Context = make([]api.Dot, 1<<20) }),
	} {
		set := []api.Record{r, r}
		_, put := sibling.Put(set)
		_, join := sibling.Join(set)
		if sibling.Right(set[:1]) || sibling.Right(set) || put != api.ErrShape || join != api.ErrShape {
			t.Error("right")
		}
	}
	zeros := make([]api.Record, 1<<16)
	if sibling.Right(zeros) {
		t.Error("zero records")
	}
	if got, err := sibling.Join(make([][]api.Record, 1<<16)...); err != api.OK || len(got) != 0 {
		t.Error("many empty sets:", err)
	}
}
