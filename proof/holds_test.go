package proof_test

import (
	"fmt"
	"slices"
	"testing"

	"buttress/api"
	"buttress/proof"
)

// wrongSets are rows that are no right sets, of the key, each by one thing.
func wrongSets(key string) map[string][]api.Record {
	r := write(key, 2, 5, 1, 3)
	out := map[string][]api.Record{
		"falling":               {write(key, 2, 1), write(key, 1, 1)},
		"twice one dot":         {r, r},
		"one over another one":  {write(key, 1, 3), r},
		"unlike keys":           {write(key, 1, 1), write(key+"l", 2, 1)},
		"unlike keys, backward": {write(key+"l", 1, 1), write(key, 2, 1)},
	}
	for name, turn := range map[string]func(r *api.Record){
		"nothing at all":       func(r *api.Record) { *r = api.Record{} },
		"no key":               func(r *api.Record) { r.Key = "" },
		"client 0":             func(r *api.Record) { r.Client = 0 },
		"client 9":             func(r *api.Record) { r.Client = 9 },
		"write 0":              func(r *api.Record) { r.Seq = 0 },
		"its own dot":          func(r *api.Record) { r.Context = []api.Dot{{Client: 2, Seq: 5}} },
		"a value of 1025":      func(r *api.Record) { r.Value = some(1025) },
		"a value, but gone":    func(r *api.Record) { r.Gone, r.Value = true, some(1) },
		"no signature":         func(r *api.Record) { r.Sig = nil },
		"a signature of 63":    func(r *api.Record) { r.Sig = some(63) },
		"a signature of 65":    func(r *api.Record) { r.Sig = some(65) },
		"a context that sinks": func(r *api.Record) { r.Context = []api.Dot{{Client: 3, Seq: 1}, {Client: 1, Seq: 1}} },
	} {
		out[name] = turned([]api.Record{r}, 0, turn)
		out["two, the last one with "+name] = turned([]api.Record{write(key, 1, 4), r}, 1, turn)
	}
	return out
}

// others are right sets that are not the set, of the key and of other ones.
func others(key string, set []api.Record) map[string][]api.Record {
	out := map[string][]api.Record{}
	for many := 1; many < 5; many++ {
		for kind := range 3 {
			out[fmt.Sprint(many, " of kind ", kind)] = setOf(key, many, kind)
			out[fmt.Sprint(many, " of kind ", kind, ", of another key")] = setOf(key+"l", many, kind)
		}
	}
	for i := range set {
		out[fmt.Sprint("without ", i)] = slices.Delete(copies(set), i, i+1)
		out[fmt.Sprint("another signature of ", i)] = turned(set, i, func(r *api.Record) { r.Sig[63] ^= 1 })
		out[fmt.Sprint("another number of ", i)] = turned(set, i, func(r *api.Record) { r.Seq += 10 })
		out[fmt.Sprint("a client less seen of ", i)] = turned(set, i, func(r *api.Record) { r.Context = nil })
		out[fmt.Sprint("another value of ", i)] = turned(set, i, func(r *api.Record) { r.Gone, r.Value = false, []byte("another") })
		out[fmt.Sprint("gone: ", i)] = turned(set, i, func(r *api.Record) { r.Gone, r.Value = !r.Gone, nil })
	}
	moved := copies(set)
	for i := range moved {
		moved[i].Key = key + "l"
	}
	out["the same of another key"] = moved
	for name, other := range out {
		if sameSet(other, set) || len(other) == 0 {
			delete(out, name)
		}
	}
	return out
}

// mustHold fails, unless Holds tells that.
func mustHold(t *testing.T, of string, w trip, top []byte, set []api.Record, want api.Errno) {
	t.Helper()
	if err := proof.Holds(w.shard, top, w.key, w.p, set); err != want {
		t.Fatalf("%q: %s: %v, not %v", w.key, of, err, want)
	}
}

// P13.3: just the set that stands there holds; of a key that is not there the empty one alone.
func TestHolds(t *testing.T) {
	there, not := 0, 0
	for s := range 4 {
		for _, tree := range grown(t, s) {
			for _, key := range asked(s) {
				w := trip{s, key, made(t, tree, key)}
				set := tree.Get(key)
				empty := api.ErrProof
				if not++; len(set) == 0 {
					empty = api.OK
				} else {
					not--
					there++
				}
				mustHold(t, "its own", w, tree.Top(), set, api.OK)
				mustHold(t, "its own, once more", w, tree.Top(), copies(set), api.OK)
				mustHold(t, "none", w, tree.Top(), nil, empty)
				mustHold(t, "the empty one", w, tree.Top(), []api.Record{}, empty)
				for of, other := range others(key, set) {
					mustHold(t, of, w, tree.Top(), other, api.ErrProof)
				}
				for of, wrong := range wrongSets(key) {
					mustHold(t, of, w, tree.Top(), wrong, api.ErrProof)
				}
				for _, l := range tree.Leaves() {
					if l.Key != key {
						mustHold(t, "that of "+l.Key, w, tree.Top(), l.Set, api.ErrProof)
					}
				}
				top := tree.Top()
				top[63] ^= 1
				for _, bad := range [][]byte{nil, tree.Top()[:63], append(tree.Top(), 0), top, tree.Sum("")} {
					mustHold(t, "another digest", w, bad, set, api.ErrProof)
				}
				mustHold(t, "another shard", trip{(s + 1) % 4, key, w.p}, tree.Top(), set, api.ErrProof)
			}
		}
	}
	if there < 50 || not < 150 {
		t.Error("few keys:", there, not)
	}
}

// P13.3: a proof that leads nowhere holds nothing: not what it says, nor what is anywhere.
func TestHoldsAstray(t *testing.T) {
	for of, w := range astray() {
		set := setOf(w.key, 2, 0)
		for i := range w.p.End {
			if w.p.End[i].Key == w.key && len(w.p.End[i].Sum) == 64 {
				w.p.End[i].Sum = setSum(set)
			}
		}
		for _, x := range [][]api.Record{nil, {}, set, setOf("k", 1, 0)} {
			mustHold(t, of, w, w.top(), x, api.ErrProof)
		}
	}
}

// P13.3: proofs that nobody made hold what they say, however long they are; the same sets, and no others.
func TestHoldsLeads(t *testing.T) {
	for of, w := range straight() {
		set := setOf(w.key, 3, len(w.p.Side))
		want, empty := api.ErrProof, api.OK
		for i := range w.p.End {
			w.p.End[i].Sum = setSum(set)
			if w.p.End[i].Key == w.key {
				want, empty = api.OK, api.ErrProof
			}
		}
		mustHold(t, of+", its own", w, w.top(), set, want)
		mustHold(t, of+", none", w, w.top(), nil, empty)
		mustHold(t, of+", another one", w, w.top(), setOf(w.key, 2, 0), api.ErrProof)
	}
}

// P13.3: whatever Sum a proof says of the key, no set holds but a right one of that key: not the empty one, nor one of another key, nor one that is not right.
func TestHoldsSaid(t *testing.T) {
	for s := range 4 {
		for _, n := range []int{0, 1, 38, 510} {
			key := keys(s, 1)[0]
			other := under(s, key, min(n, 8))
			say := func(set []api.Record) trip {
				return trip{s, key, api.Proof{Side: digests(n), End: []api.Stub{{Key: key, Sum: setSum(set)}}}}
			}
			for of, set := range wrongSets(key) {
				w := say(set)
				mustCheck(t, of, w, w.top(), api.OK)
				mustHold(t, of, w, w.top(), set, api.ErrProof)
				mustHold(t, of+", none", w, w.top(), nil, api.ErrProof)
			}
			for _, set := range [][]api.Record{nil, {}} {
				w := say(set)
				mustCheck(t, "the empty one's", w, w.top(), api.OK)
				mustHold(t, "the empty one's", w, w.top(), set, api.ErrProof)
				mustHold(t, "the empty one's, another one", w, w.top(), setOf(key, 1, 0), api.ErrProof)
			}
			for _, set := range [][]api.Record{setOf(other, 1, 0), setOf(other, 3, 0), setOf(keys((s+1)%4, 1)[0], 2, 0), setOf(key+" ", 1, 0)} {
				w := say(set)
				mustCheck(t, "another key's", w, w.top(), api.OK)
				mustHold(t, "another key's", w, w.top(), set, api.ErrProof)
				mustHold(t, "another key's, none", w, w.top(), nil, api.ErrProof)
			}
			w := say(setOf(key, 300, 0))
			mustHold(t, "a great one", w, w.top(), setOf(key, 300, 0), api.OK)
		}
	}
}
