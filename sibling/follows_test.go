package sibling_test

import (
	"math/rand"
	"slices"
	"testing"

	"buttress/api"
	"buttress/record"
	"buttress/sibling"
	"buttress/vector"
)

// mustJoin is what Join tells of sets that are alike.
func mustJoin(t *testing.T, sets ...[]api.Record) []api.Record {
	t.Helper()
	got, err := sibling.Join(sets...)
	if err != api.OK {
		t.Fatalf("%s: %v", show(sets), err)
	}
	return got
}

// there says whether one of the records is just r.
func there(all []api.Record, r api.Record) bool {
	return slices.ContainsFunc(all, func(x api.Record) bool { return same([]api.Record{x}, []api.Record{r}) })
}

// history are writes of one key by clients each of whom had seen some of those ahead of its own, and all that these had seen; of its own ones perhaps none.
func history(r *rand.Rand, writes, clients int) []api.Record {
	var all []api.Record
	last := make([]int, clients+1)
	for range writes {
		var seen []api.Dot
		for _, x := range all {
			if r.Intn(4) == 0 {
				seen = vector.Add(seen, api.Dot{Client: x.Client, Seq: x.Seq})
			}
		}
		for range all { // who has one write of a client has the elder ones too, and what each of them had seen
			for _, x := range all {
				if vector.Has(seen, api.Dot{Client: x.Client, Seq: x.Seq}) {
					seen = vector.Join(seen, x.Context)
				}
			}
		}
		client := 1 + r.Intn(clients)
		last[client] += 1 + r.Intn(2)
		x := value(write(client, last[client]), string(some(r.Intn(3))))
		x.Context = seen
		all = append(all, x)
	}
	return all
}

// transitive says by the chapter's words whether over is transitive among the records.
func transitive(all []api.Record) bool {
	for _, a := range all {
		for _, b := range all {
			if record.Over(a, b) && record.Over(b, a) {
				return false
			}
			for _, c := range all {
				if record.Over(a, b) && record.Over(b, c) && !record.Over(a, c) {
					return false
				}
			}
		}
	}
	return true
}

// inSteps joins the records one with another, or set with set, some of them several times, as r chooses.
func inSteps(t *testing.T, r *rand.Rand, all []api.Record) []api.Record {
	t.Helper()
	steps := [][]api.Record{nil}
	for _, x := range all {
		for range 1 + r.Intn(2) {
			steps = append(steps, []api.Record{x})
		}
	}
	for len(steps) > 1 {
		r.Shuffle(len(steps), func(i, j int) { steps[i], steps[j] = steps[j], steps[i] })
		n := min(len(steps), 2+r.Intn(3))
		one := mustJoin(t, steps[:n]...)
		steps = append(steps[n-1:], steps[r.Intn(n)]) // one of them comes once more, later
		steps[0] = one
		if r.Intn(2) == 0 || len(steps) == 2 {
			steps = steps[:len(steps)-1]
		}
	}
	return steps[0]
}

// P9.4: where over is transitive, in steps, in whatever order and grouping, and with whatever comes twice, all are what they are at once; each that is left out has one that is left over it.
func TestSteps(t *testing.T) {
	rnd := rand.New(rand.NewSource(95))
	partly := 0
	for k := range 400 {
		all := history(rnd, 1+rnd.Intn(12), 1+rnd.Intn(8))
		if !transitive(all) {
			t.Fatal("over is not transitive:", show(all))
		}
		want := mustJoin(t, all)
		if k%4 == 0 {
			want = join(t, "a history", all)
		}
		for range 10 {
			if got := inSteps(t, rnd, all); !same(got, want) {
				t.Fatalf("%s: %s, at once %s", show(all), show(got), show(want))
			}
		}
		for _, r := range all {
			if !there(want, r) && !below(want, r) {
				t.Fatalf("%s: %s is left out, with none over it", show(want), show(r))
			}
		}
		if len(want) > 1 && len(want) < len(all) {
			partly++
		}
	}
	if partly < 100 {
		t.Error("few histories of which some are left:", partly)
	}
}

// P9.4: whatever is joined is right, was in one of the sets, and hangs on no order of them, nor of what is in them; joined once more it is the same.
func TestJoined(t *testing.T) {
	rnd := rand.New(rand.NewSource(96))
	for range 1500 {
		all := anyWrites(rnd, 10, 4, 4)
		want := mustJoin(t, all)
		if !sibling.Right(want) || !isSet(want) || !same(mustJoin(t, want), want) || !same(mustJoin(t, want, want), want) {
			t.Fatalf("%s: %s", show(all), show(want))
		}
		for _, r := range want {
			if !there(all, r) {
				t.Fatalf("%s: %s was not there", show(all), show(r))
			}
		}
		for range 8 {
			if got := mustJoin(t, parts(rnd, mixed(rnd, all))...); !same(got, want) {
				t.Fatalf("%s: %s, %s", show(all), show(got), show(want))
			}
		}
	}
}

// P9.4: a right set joined is itself; so it is with parts of it.
func TestJoinOfRight(t *testing.T) {
	rnd := rand.New(rand.NewSource(97))
	for _, set := range append(sets(), many(20), many(300)) {
		part := mixed(rnd, set)[:len(set)/2]
		for i, of := range [][][]api.Record{{set}, {set, set}, {set, part}, {part, set}, {nil, mixed(rnd, set)}} {
			if got := mustJoin(t, of...); !same(got, set) {
				t.Fatalf("%s, %d: %s", show(set), i, show(got))
			}
		}
	}
}

// P9.4: what is put is got, and put as the same; unlike sets have unlike bytes.
func TestPutGet(t *testing.T) {
	rnd := rand.New(rand.NewSource(98))
	byBytes := map[string][]api.Record{}
	all := append(sets(), many(20), many(300))
	for range 3000 {
		all = append(all, joined(anyWrites(rnd, 8, 6, 6)))
	}
	for _, set := range all {
		b, err := sibling.Put(set)
		if err != api.OK || !get(t, b, "put") {
			t.Fatalf("%s: %v", show(set), err)
		}
		if got, _ := sibling.Get(b); !same(got, set) {
			t.Fatalf("%s: %s", show(set), show(got))
		}
		if other, is := byBytes[string(b)]; is && !same(other, set) {
			t.Fatalf("%s, %s: the same bytes", show(other), show(set))
		}
		byBytes[string(b)] = set
	}
	if len(byBytes) < 1000 {
		t.Error("few sets:", len(byBytes))
	}
}

// P9.1, P9.2: who signed a record, and whether its signature fits, plays no part.
func TestSignatures(t *testing.T) {
	a, err := record.Seal(some(32), write(1, 1))
	b := write(2, 1)
	if err != api.OK {
		t.Fatal(err)
	}
	for _, sig := range [][]byte{make([]byte, 64), some(64), a.Sig} {
		b.Sig = sig
		set := []api.Record{a, b}
		if !right(t, set, "signed and not") || !same(join(t, "signed and not", set[1:], set[:1]), set) {
			t.Error(show(sig))
		}
	}
}
