package proof_test

import (
	"bytes"
	"fmt"
	"math/rand"
	"slices"
	"sync"
	"testing"

	"buttress/api"
	"buttress/merkle"
	"buttress/proof"
)

// mustStand fails, unless what Make tells of each key holds in the tree, with the set that stands there, and no other one of these.
func mustStand(t *testing.T, tree *merkle.Tree, stand map[string][]api.Record, asked ...string) {
	t.Helper()
	s, top := tree.Shard(), tree.Top()
	for _, key := range asked {
		p := made(t, tree, key)
		set := stand[key]
		sum, err := proof.Check(s, top, key, p)
		if err != api.OK || (len(sum) > 0) != (len(set) > 0) || len(set) > 0 && !bytes.Equal(sum, setSum(set)) {
			t.Fatalf("%q: %x, %v", key, sum, err)
		}
		for _, other := range [][]api.Record{set, nil, setOf(key, 1, 0), setOf(key, 2, 1), setOf(key, 3, 2)} {
			want := api.ErrProof
			if sameSet(set, other) {
				want = api.OK
			}
			mustHold(t, show(other), trip{s, key, p}, top, other, want)
		}
	}
}

// P13.5: what Make tells holds in the tree after each Put; of those told before just the ones under the same digest.
func TestEachPut(t *testing.T) {
	rnd := rand.New(rand.NewSource(135))
	for s := range 4 {
		k := append(keys(s, 7), oddKeys(s)[:2]...)
		if s == 3 {
			k = append(k, pairs()[38][0], pairs()[38][1])
		}
		tree, stand := merkle.New(s), map[string][]api.Record{}
		var elder []trip
		var tops [][]byte
		for step := range 40 {
			mustStand(t, tree, stand, append(k, keys(s, 12)[9:]...)...)
			for i, w := range elder {
				want := api.ErrProof
				if bytes.Equal(tops[i], tree.Top()) {
					want = api.OK
				}
				if _, err := proof.Check(s, tree.Top(), w.key, w.p); err != want {
					t.Fatalf("step %d, of %d: %v", step, i, err)
				}
				if _, err := proof.Check(s, tops[i], w.key, w.p); err != api.OK {
					t.Fatalf("step %d, of %d, under its own: %v", step, i, err)
				}
			}
			key := k[rnd.Intn(len(k))]
			elder, tops = append(elder, trip{s, key, made(t, tree, key)}), append(tops, tree.Top())
			for range 1 + rnd.Intn(3) {
				key := k[rnd.Intn(len(k))]
				set := setOf(key, rnd.Intn(4), rnd.Intn(3))
				if err := tree.Put(api.Leaf{Key: key, Set: set}); err != api.OK {
					t.Fatal(err)
				}
				stand[key] = set
			}
		}
	}
}

// P13.5: a copy's proofs hold in it, when its tree went on, and the tree's own in that.
func TestCopies(t *testing.T) {
	k := keys(1, 12)
	tree := treeOf(t, 1, leavesOf(k[:6], 0)...)
	c := tree.Copy()
	before := map[string][]api.Record{}
	after := map[string][]api.Record{}
	for i, l := range leavesOf(k[:6], 0) {
		before[l.Key] = l.Set
		after[l.Key] = setOf(l.Key, i%3, 7)
		tree.Put(api.Leaf{Key: l.Key, Set: after[l.Key]})
	}
	mustStand(t, tree, after, k...)
	mustStand(t, c, before, k...)
}

// family are proofs of a key that lead, no two alike: of few and many digests, of none and one stub, with the same digests in unlike places, and what stands in one text where it may look like another one.
func family(s int, key string) []api.Proof {
	l, r := hash(0), digest(1)
	rows := [][][]byte{nil, {l}, {r}, {l, r}, {r, l}, {l, l}, {r, r}, {l, l, r}, {l, r, l}, {r, l, l}, {hash(l)}, {hash(0), hash(hash(0))}}
	for _, end := range [][]api.Stub{nil, {{Key: key, Sum: l}}, {{Key: key, Sum: r}}} {
		w := trip{s, key, api.Proof{End: end}}
		for _, text := range climb(s, key, w.p) {
			rows = append(rows, [][]byte{hash(text)}, [][]byte{hash(text), l}, [][]byte{l, hash(text)})
		}
	}
	for _, n := range []int{4, 9, 300, 509, 510} {
		rows = append(rows, slices.Repeat([][]byte{l}, n), digests(n))
	}
	var out []api.Proof
	for _, side := range rows {
		ends := [][]api.Stub{nil, {{Key: key, Sum: l}}, {{Key: key, Sum: r}}, {{Key: key, Sum: setSum(nil)}}, {{Key: key, Sum: setSum(setOf(key, 1, 0))}}, {{Key: key, Sum: setSum(setOf(key, 2, 0))}}}
		if len(side) < 8 {
			other := under(s, key, len(side))
			ends = append(ends, []api.Stub{{Key: other, Sum: l}}, []api.Stub{{Key: other, Sum: setSum(setOf(other, 1, 0))}})
		}
		for _, end := range ends {
			p := api.Proof{Side: side, End: end}
			if !slices.ContainsFunc(out, func(q api.Proof) bool { return sameProof(p, q) }) {
				out = append(out, p)
			}
		}
	}
	return out
}

// P13.5: unlike proofs of a key lead to unlike digests, so under none of them two of a family say anything.
func TestFamily(t *testing.T) {
	for s := range 4 {
		key := keys(s, 3)[2]
		all := family(s, key)
		tops := map[string]int{}
		for i, p := range all {
			texts := proof.Texts(s, key, p, nil)
			if len(texts) != len(p.Side)+3 {
				t.Fatal(i, len(texts))
			}
			top := hash(texts[len(texts)-1])
			if j, is := tops[string(top)]; is {
				t.Fatalf("%d and %d lead to one digest", i, j)
			}
			tops[string(top)] = i
			mustCheck(t, fmt.Sprint(i), trip{s, key, p}, top, api.OK)
			for j := max(0, i-12); j < min(len(all), i+12); j++ {
				if _, err := proof.Check(s, top, key, all[j]); (err == api.OK) != (i == j) {
					t.Fatal(i, j, err)
				}
			}
		}
		if len(all) < 200 {
			t.Error("few proofs:", len(all))
		}
	}
}

// P13.5: no two sets hold by proofs that lead to one digest, whichever proofs and sets are tried; and where they lead to unlike ones, no text of one has the digest of an unlike one of the other.
func TestOneAnswer(t *testing.T) {
	holding := 0
	for s := range 4 {
		for _, key := range []string{keys(s, 4)[3], oddKeys(s)[0]} {
			all := slices.DeleteFunc(family(s, key), func(p api.Proof) bool { return len(p.Side) > 9 && len(p.End) == 0 })
			for _, tree := range grown(t, s) {
				p := made(t, tree, key)
				all = append(all, p)
				turned := bent(p)
				for n, of := range names(turned) {
					if n%5 == 0 && leads(s, key, turned[of]) {
						all = append(all, turned[of])
					}
				}
			}
			sets := [][]api.Record{nil, setOf(key, 1, 0), setOf(key, 2, 0), setOf(key+"l", 1, 0)}
			for _, tree := range grown(t, s) {
				sets = append(sets, tree.Get(key))
			}
			for _, name := range []string{"falling", "unlike keys", "no key", "nothing at all"} {
				sets = append(sets, wrongSets(key)[name])
			}
			held := map[string][]api.Record{} // by digests
			known := map[string]string{}      // texts, by digests
			for i, p := range all {
				top := summit(s, key, p)
				for j, set := range sets {
					if proof.Holds(s, top, key, p, set) != api.OK {
						continue
					}
					holding++
					if other, is := held[string(top)]; is && !sameSet(set, other) {
						t.Fatalf("%q, proof %d, set %d: %s, and %s", key, i, j, show(set), show(other))
					}
					held[string(top)] = set
					for _, text := range proof.Texts(s, key, p, set) {
						if other, is := known[string(hash(text))]; is && other != string(text) {
							t.Fatalf("%x, and %x", text, other)
						}
						known[string(hash(text))] = string(text)
					}
				}
			}
			if len(held) < 100 {
				t.Error("few digests:", len(held))
			}
		}
	}
	if holding < 2000 {
		t.Error("few hold:", holding)
	}
}

// P13.5: many may ask one tree at a time.
func TestAtOnce(t *testing.T) {
	k := keys(2, 40)
	tree := treeOf(t, 2, leavesOf(k[:30], 0)...)
	want := map[string]api.Proof{}
	for _, key := range k {
		want[key] = made(t, tree, key)
	}
	top := tree.Top()
	var all sync.WaitGroup
	bad := make([]int, 8)
	for n := range 8 {
		all.Go(func() {
			for _, key := range k {
				p, err := proof.Make(tree, key)
				if err != api.OK || !sameProof(p, want[key]) || proof.Holds(2, top, key, p, tree.Get(key)) != api.OK {
					bad[n]++
				}
			}
		})
	}
	all.Wait()
	if slices.Max(bad) > 0 {
		t.Error(bad)
	}
}
