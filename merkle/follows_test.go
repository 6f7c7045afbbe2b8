package merkle_test

import (
	"bytes"
	"fmt"
	"math/rand"
	"slices"
	"strings"
	"sync"
	"testing"

	"buttress/api"
	"buttress/merkle"
	"buttress/shard"
)

// ways of putting leaves into a tree of a shard, so that these, and no others, are in it at last.
func puttings(r *rand.Rand) map[string]func(tree *merkle.Tree, leaves, others []api.Leaf) {
	each := func(tree *merkle.Tree, leaves []api.Leaf) {
		for _, l := range leaves {
			tree.Put(l)
		}
	}
	reverse := func(l []api.Leaf) []api.Leaf {
		l = slices.Clone(l)
		slices.Reverse(l)
		return l
	}
	out := func(l []api.Leaf) []api.Leaf {
		var k []string
		for _, x := range l {
			k = append(k, x.Key)
		}
		return emptied(k)
	}
	type tree = *merkle.Tree
	type row = []api.Leaf
	return map[string]func(tree *merkle.Tree, leaves, others []api.Leaf){
		"at once":             func(t tree, l, o row) { t.Put(l...) },
		"at once, backward":   func(t tree, l, o row) { t.Put(reverse(l)...) },
		"at once, mixed":      func(t tree, l, o row) { t.Put(mixed(r, l)...) },
		"at once, twice":      func(t tree, l, o row) { t.Put(append(slices.Clone(l), l...)...) },
		"one by one":          func(t tree, l, o row) { each(t, l) },
		"one by one backward": func(t tree, l, o row) { each(t, reverse(l)) },
		"one by one, mixed":   func(t tree, l, o row) { each(t, mixed(r, l)) },
		"each twice":          func(t tree, l, o row) { each(t, l); each(t, mixed(r, l)) },
		"over others":         func(t tree, l, o row) { t.Put(o[:len(l)]...); t.Put(out(o)...); each(t, mixed(r, l)) },
		"others between": func(t tree, l, o row) {
			for i, x := range mixed(r, append(slices.Clone(l), o...)) {
				t.Put(x)
				if i%3 == 0 {
					t.Put(out(o)...)
				}
			}
			t.Put(out(o)...)
		},
		"others taken out, one by one": func(t tree, l, o row) {
			t.Put(mixed(r, append(slices.Clone(l), o...))...)
			each(t, mixed(r, out(o)))
		},
		"over other sets": func(t tree, l, o row) {
			for _, x := range l {
				t.Put(leafOf(x.Key, r.Intn(4), 9))
			}
			each(t, mixed(r, l))
		},
		"all taken out between": func(t tree, l, o row) { each(t, l); each(t, out(l)); t.Put(mixed(r, l)...) },
		"in parts":              func(t tree, l, o row) { t.Put(l[len(l)/2:]...); t.Put(l[:len(l)/2]...) },
		"in one call, with all": func(t tree, l, o row) { t.Put(slices.Concat(o, out(l), l, out(o), l)...) },
		"what is refused between": func(t tree, l, o row) {
			for _, x := range l {
				t.Put(x)
				t.Put(append(slices.Clone(o), api.Leaf{})...)
			}
		},
	}
}

// P12.4: digests hang on the leaves alone: whatever the order in which they were put, and whatever else was there.
func TestLeavesAlone(t *testing.T) {
	rnd := rand.New(rand.NewSource(124))
	for s := range 4 {
		for _, many := range []int{0, 1, 2, 3, 10, 60} {
			k := keys(s, 2*many+20)
			if s == 3 && many > 2 {
				k[0], k[1] = pairs()[38][0], pairs()[38][1]
				k[2], k[many] = pairs()[37][0], pairs()[37][1] // the other one is put, and taken out
			}
			leaves, others := leavesOf(k[:many], 0), leavesOf(k[many:], 1)
			m := modelOf(s, leaves...)
			m.put(emptied(k[many:])...)
			for name, put := range puttings(rnd) {
				tree := merkle.New(s)
				put(tree, leaves, others)
				check(t, tree, m, fmt.Sprint(many, " leaves of shard ", s, ", ", name))
			}
		}
	}
}

// P12.4: each leaf plays a part: another key, another set, one more, one less are another digest of the tree.
func TestEachLeaf(t *testing.T) {
	k := keys(0, 30)
	leaves := leavesOf(k[:20], 0)
	seen := map[string]string{}
	see := func(leaves []api.Leaf, of string) {
		t.Helper()
		top := string(treeOf(t, 0, leaves...).Top())
		if before, is := seen[top]; is || len(top) != 64 {
			t.Fatalf("%s, %s: %x", before, of, top)
		}
		seen[top] = of
	}
	see(leaves, "all")
	for i, l := range leaves {
		see(slices.Delete(slices.Clone(leaves), i, i+1), "without "+l.Key)
		turned := slices.Clone(leaves)
		turned[i] = leafOf(l.Key, len(l.Set)+1, 0)
		see(turned, "a write more of "+l.Key)
		turned[i] = leafOf(l.Key, len(l.Set), 1)
		see(turned, "other writes of "+l.Key)
		turned[i] = api.Leaf{Key: l.Key, Set: copies(l.Set)}
		turned[i].Set[0].Sig[63] ^= 1
		see(turned, "another signature of "+l.Key)
		turned[i] = leafOf(k[29], len(l.Set), 0)
		see(turned, "another key for "+l.Key)
	}
	for _, key := range k[20:29] {
		see(append(slices.Clone(leaves), leafOf(key, 1, 0)), "and "+key)
	}
}

// P12.4: trees of unlike shards have unlike digests, without leaves, too.
func TestShards(t *testing.T) {
	seen := map[string]bool{}
	for s := range 4 {
		tree := merkle.New(s)
		seen[string(tree.Top())] = true
		if !bytes.Equal(tree.Sum(""), merkle.New(0).Sum("")) {
			t.Error(s)
		}
	}
	if len(seen) != 4 {
		t.Error(len(seen))
	}
}

// P12.4: whatever is asked between, of this tree and of others, changes nothing.
func TestAsked(t *testing.T) {
	rnd := rand.New(rand.NewSource(125))
	for round := range 4 {
		k := append(keys(3, 30), pairs()[38][0], pairs()[38][1])
		silent, asked := merkle.New(3), merkle.New(3)
		m := newModel(3)
		for step := range 80 {
			l := leafOf(k[rnd.Intn(len(k))], rnd.Intn(4), rnd.Intn(3))
			silent.Put(l)
			asked.Put(l)
			m.put(l)
			for range rnd.Intn(6) {
				ask(rnd, asked, k)
			}
			if step%16 == 15 {
				check(t, asked, m, fmt.Sprint("round ", round, ", step ", step))
			}
		}
		check(t, silent, m, "never asked ahead")
		check(t, asked, m, "asked ahead")
	}
}

// ask asks a tree something that r chooses.
func ask(r *rand.Rand, tree *merkle.Tree, keys []string) {
	key := keys[r.Intn(len(keys))]
	path := shard.Bits(key)[:r.Intn(1<<r.Intn(9))]
	switch r.Intn(9) {
	case 0:
		tree.Top()
	case 1:
		tree.Sum(path)
	case 2:
		tree.Node(path)
	case 3:
		tree.Leaves()
	case 4:
		tree.Get(key)
	case 5:
		tree.Copy().Put(api.Leaf{Key: key})
	case 6:
		tree.Put(leafOf(key, 1, 5), api.Leaf{})
	case 7:
		tree.Node(path + "x")
	case 8:
		tree.Sum(path + other(shard.Bits(key)[len(path):len(path)+1]))
	}
}

// P12.4: a node's digest is that of the node that Node tells; with TopSum that of the empty path is the tree's.
func TestNodeOfSum(t *testing.T) {
	for s := range 4 {
		for _, many := range []int{0, 1, 2, 5, 150} {
			leaves := leavesOf(keys(s, many), 0)
			tree := treeOf(t, s, leaves...)
			if !bytes.Equal(tree.Top(), merkle.TopSum(s, tree.Sum(""))) {
				t.Error(s, many)
			}
			paths := []string{"", "0", "1", strings.Repeat("0", 510), strings.Repeat("1", 510)}
			for _, l := range leaves {
				for depth := range 20 {
					paths = append(paths, shard.Bits(l.Key)[:depth])
				}
				paths = append(paths, shard.Bits(l.Key))
			}
			for _, path := range paths {
				n, err := tree.Node(path)
				if sum := merkle.NodeSum(n); err != api.OK || len(sum) != 64 || !bytes.Equal(sum, tree.Sum(path)) {
					t.Fatalf("%d leaves, %q: %s, %v", many, path, show(n), err)
				}
			}
		}
	}
}

// P12.4: of one tree the same each time, also when many ask at one time.
func TestManyAsk(t *testing.T) {
	leaves := leavesOf(keys(1, 60), 0)
	tree := treeOf(t, 1, leaves...)
	tree.Put(api.Leaf{Key: leaves[7].Key}) // the last call ahead changed the tree
	m := modelOf(1, slices.Concat(leaves[:7], leaves[8:])...)
	nodes, top := m.nodes()
	var wait sync.WaitGroup
	for range 8 {
		wait.Go(func() {
			for path, n := range nodes {
				got, err := tree.Node(path)
				if err != api.OK || !sameNode(got, n) || !bytes.Equal(tree.Sum(path), nodeSum(n)) || !bytes.Equal(tree.Top(), top) {
					t.Errorf("%q: %s", path, show(got))
				}
			}
			if !sameLeaves(tree.Copy().Leaves(), m.leaves()) {
				t.Error("leaves")
			}
		})
	}
	wait.Wait()
}

// R7: a tree of many more keys than a shelf has, put at once and one by one.
func TestGreatTree(t *testing.T) {
	k := keys(0, 6000)
	leaves := leavesOf(k, 0)
	once, each := treeOf(t, 0, leaves...), merkle.New(0)
	for _, l := range leaves {
		each.Put(l)
	}
	_, top := modelOf(0, leaves...).nodes()
	if !bytes.Equal(once.Top(), top) || !bytes.Equal(each.Top(), top) || len(each.Leaves()) != 6000 {
		t.Errorf("%x, %x", once.Top(), each.Top())
	}
	each.Put(emptied(k[100:])...)
	check(t, each, modelOf(0, leaves[:100]...), "most are taken out")
}

func BenchmarkPut(b *testing.B) {
	leaves := leavesOf(keys(0, 256), 0)
	tree := merkle.New(0)
	tree.Put(leaves...)
	for n := 0; b.Loop(); n++ {
		tree.Put(leafOf(leaves[n%256].Key, 1, n%5))
	}
}
