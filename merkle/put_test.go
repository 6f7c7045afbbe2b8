package merkle_test

import (
	"bytes"
	"fmt"
	"math"
	"math/rand"
	"slices"
	"strings"
	"testing"

	"buttress/api"
	"buttress/merkle"
	"buttress/shard"
)

// P12.2: trees of the four shards without leaves, and no others.
func TestNew(t *testing.T) {
	for _, s := range []int{math.MinInt, -256, -4, -1, 0, 1, 2, 3, 4, 5, 256, 257, 1 << 32, math.MaxInt} {
		tree := merkle.New(s)
		if s < 0 || s > 3 {
			if tree != nil {
				t.Errorf("%d: a tree", s)
			}
			continue
		}
		if tree == nil {
			t.Fatalf("%d: none", s)
		}
		check(t, tree, newModel(s), fmt.Sprint("shard ", s))
	}
}

// P12.2: trees that New answered have nothing of each other.
func TestNewApart(t *testing.T) {
	one, two := merkle.New(2), merkle.New(2)
	l := leavesOf(keys(2, 5), 0)
	one.Put(l...)
	check(t, one, modelOf(2, l...), "put to")
	check(t, two, newModel(2), "another one was put to")
	check(t, merkle.New(2), newModel(2), "a new one")
}

// The chapter's example.
func TestExample(t *testing.T) {
	for s := range 4 {
		tree := merkle.New(s)
		if n, err := tree.Node(""); err != api.OK || !sameNode(n, api.Node{Kind: api.NodeNone}) {
			t.Error(s, show(n), err)
		}
		if !bytes.Equal(tree.Top(), merkle.TopSum(s, hash(0))) || !bytes.Equal(tree.Top(), hash(4, s, hash(0))) {
			t.Errorf("%d: %x", s, tree.Top())
		}
		if err := tree.Put(leafOf(keys((s+1)%4, 1)[0], 1, 0)); err != api.ErrShard {
			t.Error(s, err)
		}
	}
}

// P12.2: leaves are put one behind the other, each in a call of its own, in place of what was there, and taken out.
func TestPut(t *testing.T) {
	for s := range 4 {
		tree, m := merkle.New(s), newModel(s)
		put := func(of string, leaves ...api.Leaf) {
			t.Helper()
			if err := tree.Put(leaves...); err != api.OK {
				t.Fatalf("%s: %v", of, err)
			}
			m.put(leaves...)
			check(t, tree, m, of)
		}
		k := append(oddKeys(s), keys(s, 6)...)
		put("no leaves")
		for i, key := range k {
			put("one more", leafOf(key, i%4+1, 0))
		}
		put("the same again", leafOf(k[0], 1, 0))
		for i, key := range k {
			put("in place of another one", leafOf(key, i%3+1, 1))
		}
		put("no leaves")
		put("more than a shelf's", leafOf(k[1], 40, 0))
		for i, key := range k {
			put("taken out", api.Leaf{Key: key, Set: slices.Repeat([]api.Record{{}}, i)[:0]})
			put("taken out twice", api.Leaf{Key: key})
		}
		put("all at once", leavesOf(k, 2)...)
		put("all out at once", emptied(k)...)
	}
}

// emptied are leaves of the keys without writes.
func emptied(keys []string) []api.Leaf {
	var out []api.Leaf
	for _, key := range keys {
		out = append(out, api.Leaf{Key: key})
	}
	return out
}

// P12.2: of one key that stands twice, or more often, in one call the last one stays, whatever is between.
func TestPutTwice(t *testing.T) {
	k := keys(1, 4)
	a, b, other := leafOf(k[0], 1, 0), leafOf(k[0], 2, 1), leafOf(k[1], 1, 0)
	none := api.Leaf{Key: k[0]}
	for i, leaves := range [][]api.Leaf{
		{a, a}, {a, b}, {b, a}, {a, other, b}, {b, other, a}, {a, b, a}, {other, a, other, b, other},
		{a, none}, {none, a}, {none, none}, {a, none, b}, {none, a, none}, {a, other, none}, {none, other, b},
		{a, b, none, a, b, none, a}, {a, {Key: k[1]}, other, {Key: k[1]}, b},
	} {
		for j, ahead := range [][]api.Leaf{nil, {a}, {b}, {other}, {a, other}, leavesOf(k, 3)} {
			tree := treeOf(t, 1, ahead...)
			if err := tree.Put(leaves...); err != api.OK {
				t.Fatal(i, j, err)
			}
			m := modelOf(1, ahead...)
			m.put(leaves...)
			check(t, tree, m, fmt.Sprint(i, " over ", j))
		}
	}
}

// refused are leaves that a tree of shard 1 does not take, by the error.
func refused() map[string]struct {
	leaf api.Leaf
	err  api.Errno
} {
	type bad = struct {
		leaf api.Leaf
		err  api.Errno
	}
	here, there := keys(1, 2), keys(2, 2)
	long := string(some(65))
	for n := 0; shard.Of(long) != 1; n++ {
		long = fmt.Sprintf("%065d", n)
	}
	out := map[string]bad{
		"another shard":            {leafOf(there[0], 1, 0), api.ErrShard},
		"another shard, out":       {api.Leaf{Key: there[0]}, api.ErrShard},
		"another shard, no set":    {api.Leaf{Key: there[0], Set: wrongSets()["falling"]}, api.ErrShard},
		"another shard, other key": {api.Leaf{Key: there[0], Set: leafOf(here[0], 1, 0).Set}, api.ErrShard},
		"shard 0":                  {leafOf(keys(0, 1)[0], 2, 0), api.ErrShard},
		"shard 3":                  {leafOf(keys(3, 1)[0], 2, 0), api.ErrShard},
		"no key":                   {leafOf("", 1, 0), api.ErrShard},
		"no key, out":              {api.Leaf{}, api.ErrShard},
		"no key, another's set":    {api.Leaf{Set: leafOf(here[0], 1, 0).Set}, api.ErrShard},
		"a key of 65":              {leafOf(long, 1, 0), api.ErrShard},
		"a key of 65, out":         {api.Leaf{Key: long}, api.ErrShard},
		"a key of 65, not its":     {api.Leaf{Key: long, Set: leafOf(long[:64], 1, 0).Set}, api.ErrShard},
		"a key of 2^20":            {api.Leaf{Key: strings.Repeat("k", 1<<20)}, api.ErrShard},
		"another key":              {api.Leaf{Key: here[0], Set: leafOf(here[1], 1, 0).Set}, api.ErrShape},
		"another key, two":         {api.Leaf{Key: here[0], Set: leafOf(here[1], 2, 0).Set}, api.ErrShape},
		"another shard's key":      {api.Leaf{Key: here[0], Set: leafOf(there[1], 2, 0).Set}, api.ErrShape},
		"the first of another key": {api.Leaf{Key: here[0], Set: append(leafOf(here[1], 1, 0).Set, write(here[0], 7, 7))}, api.ErrShape},
		"the last of another key":  {api.Leaf{Key: here[0], Set: append(leafOf(here[0], 1, 0).Set, write(here[1], 7, 7))}, api.ErrShape},
	}
	for name, set := range wrongSets() {
		set = copies(set)
		for i := range set {
			if set[i].Key == "k" {
				set[i].Key = here[1]
			}
		}
		out["set: "+name] = bad{api.Leaf{Key: here[1], Set: set}, api.ErrShape}
	}
	return out
}

// P12.2: a leaf that may not be, amid others, is refused with all of them: nothing changes.
func TestPutRefused(t *testing.T) {
	k := keys(1, 12)
	before := leavesOf(k[:6], 0)
	tree, m := treeOf(t, 1, before...), modelOf(1, before...)
	news := leavesOf(k[3:9], 1)
	for name, bad := range refused() {
		for at := range len(news) + 1 {
			leaves := slices.Insert(slices.Clone(news), at, bad.leaf)
			if err := tree.Put(leaves...); err != bad.err {
				t.Fatalf("%s at %d: %v", name, at, err)
			}
			leaves = append(append(emptied(k), leaves...), emptied(k)...)
			if err := tree.Put(leaves...); err != bad.err {
				t.Fatalf("%s at %d, with what takes out: %v", name, at, err)
			}
		}
		if err := tree.Put(bad.leaf); err != bad.err {
			t.Fatalf("%s alone: %v", name, err)
		}
		check(t, tree, m, name)
	}
	if err := merkle.New(1).Put(refused()["no key"].leaf); err != api.ErrShard {
		t.Error("of a tree without leaves:", err)
	}
}

// P12.2: of several leaves that may not be the first one's error is told.
func TestPutFirst(t *testing.T) {
	all := refused()
	tree, m := treeOf(t, 1, leavesOf(keys(1, 3), 0)...), modelOf(1, leavesOf(keys(1, 3), 0)...)
	good := leafOf(keys(1, 5)[4], 1, 0)
	for one, a := range all {
		for two, b := range all {
			for _, leaves := range [][]api.Leaf{{a.leaf, b.leaf}, {good, a.leaf, b.leaf}, {a.leaf, good, b.leaf, good}} {
				if err := tree.Put(leaves...); err != a.err {
					t.Fatalf("%s ahead of %s: %v", one, two, err)
				}
			}
		}
	}
	check(t, tree, m, "many that were refused")
}

// P12.2: keys that were put alone are told, whatever is alike to them.
func TestGet(t *testing.T) {
	for s := range 4 {
		k := append(keys(s, 20), oddKeys(s)...)
		var in, out []string
		for i, key := range k {
			if i%2 == 0 {
				in = append(in, key)
			} else {
				out = append(out, key)
			}
		}
		tree := treeOf(t, s, leavesOf(in, 0)...)
		for i, key := range in {
			if got := tree.Get(key); !sameSet(got, leafOf(key, i%3+1, 0).Set) {
				t.Errorf("%q: %s", key, show(got))
			}
			out = append(out, key+" ", key+"\x00", strings.ToUpper(key)+"!", key[1:], key+key)
		}
		out = append(out, "", string(some(65)), strings.Repeat("k", 1<<20))
		out = append(out, keys((s+1)%4, 9)...)
		for _, key := range out {
			if slices.Contains(in, key) {
				continue
			}
			if got := tree.Get(key); len(got) != 0 {
				t.Errorf("%q: %s", key, show(got))
			}
		}
	}
}

// P12.2, P12.3: calls in an order that chance chooses, many of a few keys, hold against the words each time.
func TestPutAny(t *testing.T) {
	rnd := rand.New(rand.NewSource(122))
	for round := range 8 {
		s := round % 4
		k := append(keys(s, 3+rnd.Intn(12)), oddKeys(s)[:3]...)
		tree, m := merkle.New(s), newModel(s)
		for step := range 60 {
			var leaves []api.Leaf
			for range rnd.Intn(4) * rnd.Intn(4) {
				leaves = append(leaves, leafOf(k[rnd.Intn(len(k))], rnd.Intn(4), rnd.Intn(3)))
			}
			if err := tree.Put(leaves...); err != api.OK {
				t.Fatal(round, step, err)
			}
			m.put(leaves...)
			check(t, tree, m, fmt.Sprint("round ", round, ", step ", step))
		}
	}
}
