package proof_test

import (
	"fmt"
	"math"
	"slices"
	"strings"
	"testing"

	"buttress/api"
	"buttress/proof"
)

// trip is what a proof is asked for: of a key, and of a shard.
type trip struct {
	shard int
	key   string
	p     api.Proof
}

// top is the digest that the trip comes to, whether it leads or not.
func (w trip) top() []byte {
	return summit(w.shard, w.key, w.p)
}

// sides are how many digests stand in Side.
var sides = []int{0, 1, 2, 3, 7, 8, 9, 36, 37, 38, 39, 63, 64, 254, 255, 256, 257, 508, 509, 510}

// straight are trips that lead.
func straight() map[string]trip {
	out := map[string]trip{}
	for s := range 4 {
		for i, key := range append(keys(s, 2), oddKeys(s)[:3]...) {
			for _, n := range sides {
				of := fmt.Sprint("shard ", s, ", key ", i, ", ", n, " of Side, ")
				out[of+"none"] = trip{s, key, api.Proof{Side: digests(n)}}
				out[of+"the key"] = trip{s, key, api.Proof{Side: digests(n), End: stubs(key)}}
				if n < 9 {
					out[of+"another one"] = trip{s, key, api.Proof{Side: digests(n), End: stubs(under(s, key, n))}}
				}
			}
		}
	}
	for same, two := range pairs() {
		for _, n := range []int{0, same / 2, same} {
			out[fmt.Sprint(same, " signs alike, ", n, " of Side")] = trip{3, two[0], api.Proof{Side: digests(n), End: stubs(two[1])}}
		}
	}
	return out
}

// astray are trips that don't lead, each by one thing, though all of it can be reckoned.
func astray() map[string]trip {
	out := map[string]trip{}
	strayKeys(out)
	strayShapes(out)
	strayEnds(out)
	return out
}

// strayKeys are of keys and shards that may not be.
func strayKeys(out map[string]trip) {
	for s := range 4 {
		key := keys(s, 1)[0]
		for _, n := range []int{0, 3, 510} {
			for _, end := range [][]api.Stub{nil, stubs(key)} {
				of := fmt.Sprint(n, " of Side, ", len(end), " of End, of a key of shard ", s, ": ")
				for _, shard := range []int{math.MinInt, s - 256, s - 4, -1, 0, 1, 2, 3, 4, s + 4, s + 256, s + 1<<32, math.MaxInt} {
					if shard != s {
						out[of+fmt.Sprint("shard ", shard)] = trip{shard, key, api.Proof{Side: digests(n), End: end}}
					}
				}
			}
			of := fmt.Sprint(n, " of Side, of shard ", s, ": ")
			out[of+"a key of 65"] = trip{s, long(s), api.Proof{Side: digests(n)}}
			out[of+"a key of 65, at the end"] = trip{s, long(s), api.Proof{Side: digests(n), End: stubs(long(s))}}
		}
		out[fmt.Sprint("a key of 65, another at the end, of shard ", s)] = trip{s, long(s), api.Proof{End: stubs(key)}}
	}
	none := placeOf("").shard
	out["no key"] = trip{none, "", api.Proof{}}
	out["no key, with a Side"] = trip{none, "", api.Proof{Side: digests(9)}}
	out["no key, at the end"] = trip{none, "", api.Proof{Side: digests(9), End: stubs("")}}
	out["no key, another at the end"] = trip{none, "", api.Proof{End: stubs(keys(none, 1)[0])}}
}

// strayShapes are of proofs that are not right.
func strayShapes(out map[string]trip) {
	key := keys(2, 1)[0]
	for _, size := range []int{0, 1, 63, 65, 128} {
		for _, n := range []int{1, 2, 9, 510} {
			for at := range n {
				if at > 2 && at < n-2 {
					continue
				}
				p := api.Proof{Side: digests(n), End: stubs(key)}
				p.Side[at] = some(size)
				out[fmt.Sprint(n, " of Side, that at ", at, " of ", size)] = trip{2, key, p}
			}
		}
		out[fmt.Sprint("a Sum of ", size)] = trip{2, key, api.Proof{Side: digests(2), End: []api.Stub{{Key: key, Sum: some(size)}}}}
		out[fmt.Sprint("a Sum of ", size, ", no Side")] = trip{2, key, api.Proof{End: []api.Stub{{Key: key, Sum: some(size)}}}}
	}
	for _, n := range []int{511, 512, 1020} {
		out[fmt.Sprint(n, " of Side")] = trip{2, key, api.Proof{Side: digests(n)}}
		out[fmt.Sprint(n, " of Side, and an end")] = trip{2, key, api.Proof{Side: digests(n), End: stubs(key)}}
	}
	for _, n := range []int{0, 1, 38, 509, 510} {
		out[fmt.Sprint(n, " of Side, one key twice")] = trip{2, key, api.Proof{Side: digests(n), End: stubs(key, key)}}
		out[fmt.Sprint(n, " of Side, one key three times")] = trip{2, key, api.Proof{Side: digests(n), End: stubs(key, key, key)}}
	}
	two := pairs()[38]
	for _, n := range []int{0, 1, 37, 38} {
		out[fmt.Sprint(n, " of Side, two on it")] = trip{3, two[0], api.Proof{Side: digests(n), End: stubs(two[0], two[1])}}
		out[fmt.Sprint(n, " of Side, two on it, falling")] = trip{3, two[0], api.Proof{Side: digests(n), End: stubs(two[1], two[0])}}
	}
	s := placeOf("").shard
	out["a stub without a key"] = trip{s, keys(s, 1)[0], api.Proof{End: stubs("")}}
	out["a stub with a key of 65"] = trip{s, keys(s, 1)[0], api.Proof{End: stubs(long(s))}}
}

// strayEnds are of right proofs whose stubs are of another shard, or not under the way that is gone.
func strayEnds(out map[string]trip) {
	for s := range 4 {
		key := keys(s, 1)[0]
		for n := range 6 {
			for other := range 4 {
				if other != s {
					out[fmt.Sprint(n, " of Side, a stub of shard ", other, " for ", s)] = trip{s, key, api.Proof{Side: digests(n), End: stubs(under(other, key, n))}}
				}
			}
		}
		for _, other := range keys(s, 9)[1:] {
			for _, n := range []int{alike(key, other) + 1, alike(key, other) + 2, 255, 509, 510} {
				out[fmt.Sprint(n, " of Side, ", other, " for ", key)] = trip{s, key, api.Proof{Side: digests(n), End: stubs(other)}}
			}
			two := []string{key, other}
			slices.Sort(two)
			for _, asked := range two {
				out[fmt.Sprint(two, " at 510, asked for ", asked)] = trip{s, asked, api.Proof{Side: digests(510), End: stubs(two...)}}
			}
		}
	}
	a, b := pairs()[38][0], pairs()[38][1]
	for _, n := range []int{39, 40, 41, 300, 509, 510} {
		out[fmt.Sprint(n, " of Side, parted after 38")] = trip{3, a, api.Proof{Side: digests(n), End: stubs(b)}}
	}
	out["three at 510"] = trip{3, a, api.Proof{Side: digests(510), End: stubs(a, b, strings.ToUpper(b)+"z")}}
	slices.SortFunc(out["three at 510"].p.End, func(a, b api.Stub) int { return strings.Compare(a.Key, b.Key) })
}

// mustCheck fails, unless Check tells what the chapter's words say.
func mustCheck(t *testing.T, of string, w trip, top []byte, want api.Errno) {
	t.Helper()
	if model := leads(w.shard, w.key, w.p) && string(w.top()) == string(top); model != (want == api.OK) {
		t.Fatalf("%s: the model says %v", of, model)
	}
	sum, err := proof.Check(w.shard, top, w.key, w.p)
	var said2 []byte
	if want == api.OK {
		said2 = said(w.p, w.key)
	}
	if err != want || string(sum) != string(said2) {
		t.Errorf("%s: %x, %v", of, sum, err)
	}
}

// P13.2: a proof that leads to the digest tells the Sum of the key, if that stands at its end; none of a key that does not, another one there, too.
func TestCheckLeads(t *testing.T) {
	there, other, none := 0, 0, 0
	for of, w := range straight() {
		mustCheck(t, of, w, w.top(), api.OK)
		switch sum, _ := proof.Check(w.shard, w.top(), w.key, w.p); {
		case len(sum) == 64:
			there++
		case len(sum) == 0 && len(w.p.End) > 0:
			other++
		case len(sum) == 0:
			none++
		}
	}
	if there < 300 || other < 100 || none < 300 {
		t.Error("few that lead:", there, other, none)
	}
}

// P13.2: a proof that leads nowhere tells nothing under whatever would come of it.
func TestCheckAstray(t *testing.T) {
	for of, w := range astray() {
		mustCheck(t, of, w, w.top(), api.ErrProof)
		for _, top := range [][]byte{nil, {}, digest(0), w.top()[:63]} {
			mustCheck(t, of, w, top, api.ErrProof)
		}
	}
	if len(astray()) < 400 {
		t.Error("few that lead nowhere:", len(astray()))
	}
}

// P13.2: the digest is just those 64 bytes.
func TestCheckTop(t *testing.T) {
	for of, w := range straight() {
		top := w.top()
		texts := climb(w.shard, w.key, w.p)
		for _, bad := range [][]byte{nil, {}, top[:1], top[:32], top[:63], top[1:], append(top[:64:64], 0), append([]byte{0}, top...), append(top[:64:64], top...), make([]byte, 64), digest(0), texts[len(texts)-1], hash(texts[len(texts)-2]), hash(top)} {
			mustCheck(t, of, w, bad, api.ErrProof)
		}
		if len(w.p.Side) > 3 || w.shard != 2 {
			continue
		}
		for bit := range 512 {
			top[bit/8] ^= 1 << (bit % 8)
			if sum, err := proof.Check(w.shard, top, w.key, w.p); err != api.ErrProof || len(sum) > 0 {
				t.Errorf("%s, bit %d: %x, %v", of, bit, sum, err)
			}
			top[bit/8] ^= 1 << (bit % 8)
		}
		mustCheck(t, of, w, top, api.OK)
	}
}

// P13.2: digests that another program told of proofs that nobody made.
func TestCheckKnown(t *testing.T) {
	l, r, s := []byte(strings.Repeat("l", 64)), []byte(strings.Repeat("r", 64)), []byte(strings.Repeat("s", 64))
	var rows [][]byte
	for n := range 510 {
		rows = append(rows, []byte(strings.Repeat(string([]byte{byte(n)}), 64)))
	}
	end := []api.Stub{{Key: "a", Sum: s}}
	for i, c := range []struct {
		w   trip
		top string
	}{
		{trip{1, "a", api.Proof{}}, "b1aa36ac958800f4585478f186c4e4bfd6f9e5a1cc6c55222e20bab52e923d53128085aaf95e81769dce2998154915c93d635b19bb43b7221279c7992c0619be"},
		{trip{1, "a", api.Proof{End: end}}, "767a1181111977a3d7d640e61ae3eb19d4acb0b04b333d0a53a25d8f7676f5b1cbb652ae0a5e4095c83548afb9b275e2dd8d6bbed3bf6e007eb94a813ee26602"},
		{trip{1, "a", api.Proof{Side: [][]byte{l, r}}}, "ae7f288611da0933e8f6375818cae45f10ab1547d39b722bb9875ab918ac036a50d3b81c4f53ed01a4a6d37a7225ef721c780bb35dc055eeb6d56ca45460aa58"},
		{trip{1, "a", api.Proof{Side: [][]byte{l, r}, End: end}}, "ba41049317a716cfe9ab67650eccb35cbc9bfec5985ee81c9c836473ad333ec25eb768a40c5b0b6a05aba546e3d5e34adc4f704476682d97e5f85a4676f02800"},
		{trip{1, "a", api.Proof{Side: rows, End: end}}, "a90a7dbb68c25e9473f45b5eaa830c293135c93b9ce67fa36a0d44c71abd4ae94fa7c0b1428f317e9b8afce12871fd91ce0418b3b82281af578269dba3c2578a"},
		{trip{3, "b", api.Proof{Side: rows}}, "598f39fc47cd4d279d37c80b415034608d04adc60d18cbb5f5c396f896a23cbb64ae36a9286b9d1ad3800a1008b304706dd0684dcc8c751bbe2948392c4022fd"},
	} {
		var top []byte
		if n, err := fmt.Sscanf(c.top, "%x", &top); n != 1 || err != nil {
			t.Fatal(err)
		}
		mustCheck(t, fmt.Sprint("known ", i), c.w, top, api.OK)
		if texts := proof.Texts(c.w.shard, c.w.key, c.w.p, nil); string(hash(texts[len(texts)-1])) != string(top) {
			t.Errorf("%d: texts", i)
		}
	}
}
