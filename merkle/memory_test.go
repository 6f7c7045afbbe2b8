package merkle_test

import (
	"bytes"
	"slices"
	"testing"
	"unsafe"

	"buttress/api"
	"buttress/merkle"
	"buttress/shard"
)

// roomy are leaves of the keys, with room behind them, behind their sets, and behind each list of each record, that holds something.
func roomy(keys []string) []api.Leaf {
	out := leavesOf(append(slices.Clone(keys), "room"), 0)
	for k := range out {
		out[k].Set = append(out[k].Set, write("room", 1, 1))
		for i := range out[k].Set {
			r := &out[k].Set[i]
			r.Value = append(r.Value, 'v')
			if r.Gone {
				r.Value = nil
			}
			r.Context = append(r.Context, api.Dot{Client: 8, Seq: 9})[:len(r.Context)]
			r.Value = append(r.Value, "room"...)[:len(r.Value)]
			r.Sig = append(r.Sig, "room"...)[:len(r.Sig)]
		}
		out[k].Set = out[k].Set[:len(out[k].Set)-1]
	}
	return out[:len(keys)]
}

// whole says whether leaves are those that roomy made, with all that stands behind them.
func whole(leaves []api.Leaf, keys []string) bool {
	made := roomy(keys)
	leaves, made = leaves[:len(keys)+1], made[:len(keys)+1]
	return slices.EqualFunc(leaves, made, func(a, b api.Leaf) bool {
		return a.Key == b.Key && len(a.Set) == len(b.Set) && slices.EqualFunc(a.Set[:len(a.Set)+1], b.Set[:len(b.Set)+1], wholeRecord)
	})
}

func wholeRecord(a, b api.Record) bool {
	return sameSet([]api.Record{a}, []api.Record{b}) &&
		slices.Equal(a.Context[:len(a.Context)+1], b.Context[:len(b.Context)+1]) &&
		bytes.Equal(a.Value[:len(a.Value)+4], b.Value[:len(b.Value)+4]) &&
		bytes.Equal(a.Sig[:len(a.Sig)+4], b.Sig[:len(b.Sig)+4])
}

// wipe clears all that leaves have, with the room behind them.
func wipe(leaves []api.Leaf) {
	for _, l := range leaves[:cap(leaves)] {
		wipeSet(l.Set)
	}
	clear(leaves[:cap(leaves)])
}

func wipeSet(set []api.Record) {
	for _, r := range set[:cap(set)] {
		clear(r.Context[:cap(r.Context)])
		clear(r.Value[:cap(r.Value)])
		clear(r.Sig[:cap(r.Sig)])
	}
	clear(set[:cap(set)])
}

// plain are the leaves that roomy makes, in memory of their own.
func plain(keys []string) []api.Leaf {
	out := roomy(keys)
	for i := range out {
		out[i].Set = copies(out[i].Set)
	}
	return out
}

// R3: what was given stays as it was, with what stands behind it, whatever is asked; and it is not kept.
func TestGiven(t *testing.T) {
	k := keys(1, 6)
	leaves := roomy(k)
	l, r := append(some(64), "room"...)[:64], append(some(64), "moor"...)[:64]
	tree := merkle.New(1)
	for range 2 {
		tree.Put(leaves...)
		tree.Put(leaves[2:4]...)
		tree.Put(append(leaves[:6:6], api.Leaf{})...)
		for _, x := range leaves {
			merkle.SetSum(x.Set)
			merkle.SetSum(append(x.Set[:1:1], x.Set...))
			merkle.NodeSum(api.Node{Kind: api.NodeLeaf, Leaves: []api.Leaf{x}})
		}
		merkle.NodeSum(api.Node{Kind: api.NodeMany, Leaves: leaves})
		merkle.NodeSum(api.Node{Kind: api.NodeSplit, Left: l, Right: r})
		merkle.TopSum(3, l)
	}
	if !whole(leaves, k) || string(l[:68]) != string(some(64))+"room" || string(r[:68]) != string(some(64))+"moor" {
		t.Error("what was given was changed")
	}
	m := modelOf(1, plain(k)...)
	wipe(leaves)
	check(t, tree, m, "what was given was wiped")
	check(t, tree.Copy(), m, "what was given was wiped")
}

// R3: a key whose memory changes behind the call's back is not the tree's.
func TestKeyApart(t *testing.T) {
	key := []byte(keys(1, 1)[0])
	given := leafOf(string(key), 2, 0)
	shared := unsafe.String(&key[0], len(key))
	given.Key, given.Set[0].Key, given.Set[1].Key = shared, shared, shared
	tree := treeOf(t, 1, given)
	for i := range key {
		key[i] = '!'
	}
	check(t, tree, modelOf(1, leafOf(keys(1, 1)[0], 2, 0)), "the key's memory was written over")
}

// R3: what was told may be written over, without a change to the tree, its copies, and what was told before.
func TestToldApart(t *testing.T) {
	k := append(keys(3, 12), pairs()[38][0], pairs()[38][1])
	leaves := plain(k)
	tree, m := treeOf(t, 3, leaves...), modelOf(3, leaves...)
	c := tree.Copy()
	nodes, top := m.nodes()
	for range 2 {
		for _, one := range []*merkle.Tree{tree, c} {
			told := one.Leaves()
			before := one.Leaves()
			wipe(told)
			if !sameLeaves(before, m.leaves()) {
				t.Fatal("Leaves shares memory with what it told before")
			}
			clear(one.Top())
			for _, key := range k {
				wipeSet(one.Get(key))
			}
			for path := range nodes {
				wipeNode(t, one, path)
			}
			for _, path := range []string{"0101010101", shard.Bits(k[0])} {
				wipeNode(t, one, path)
			}
			if !bytes.Equal(one.Top(), top) {
				t.Fatal("Top")
			}
			check(t, tree, m, "what was told was wiped")
			check(t, c, m, "what was told was wiped, a copy")
		}
	}
}

// wipeNode clears what is told of a path.
func wipeNode(t *testing.T, tree *merkle.Tree, path string) {
	t.Helper()
	sum, n, again := tree.Sum(path), api.Node{}, api.Node{}
	n, _ = tree.Node(path)
	again, _ = tree.Node(path)
	clear(sum[:cap(sum)])
	clear(n.Left[:cap(n.Left)])
	if n.Kind == api.NodeSplit && !bytes.Equal(n.Right, again.Right) {
		t.Fatal("Left shares memory with Right")
	}
	clear(n.Right[:cap(n.Right)])
	wipe(n.Leaves)
	if sum := tree.Sum(path); !bytes.Equal(sum, nodeSum(again)) {
		t.Fatalf("%q: %x", path, sum)
	}
}

// R3: digests are new memory each time.
func TestSumsApart(t *testing.T) {
	n := api.Node{Kind: api.NodeSplit, Left: some(64), Right: some(64)}
	set := leafOf("k", 2, 0).Set
	for i, sum := range []func() []byte{
		func() []byte { return merkle.SetSum(set) },
		func() []byte { return merkle.SetSum(nil) },
		func() []byte { return merkle.NodeSum(n) },
		func() []byte { return merkle.NodeSum(api.Node{Kind: api.NodeNone}) },
		func() []byte { return merkle.TopSum(1, n.Left) },
	} {
		one := sum()
		want := slices.Clone(one)
		clear(one[:cap(one)])
		if !bytes.Equal(sum(), want) {
			t.Error(i)
		}
	}
}

// R3: no two lists of one answer share memory, though those that were given do.
func TestListsApart(t *testing.T) {
	k := keys(2, 3)
	long, context := some(200), []api.Dot{{Client: 7, Seq: 1}, {Client: 8, Seq: 1}}
	shared := func() []api.Leaf {
		var out []api.Leaf
		for _, key := range k {
			out = append(out, api.Leaf{Key: key, Set: []api.Record{
				{Key: key, Client: 1, Seq: 1, Context: context, Value: long[:64], Sig: long[:64]},
				{Key: key, Client: 2, Seq: 1, Context: context, Value: long[:100], Sig: long[64:128]},
			}})
		}
		return out
	}
	want := modelOf(2, shared()...).leaves()
	tree := treeOf(t, 2, shared()...)
	for at := range want {
		for i := range 2 {
			for list := range 3 {
				told := tree.Leaves()
				r, w := &told[at].Set[i], copied(want[at].Set[i])
				switch list {
				case 0:
					clear(r.Context[:cap(r.Context)])
					clear(w.Context)
				case 1:
					clear(r.Value[:cap(r.Value)])
					clear(w.Value)
				case 2:
					clear(r.Sig[:cap(r.Sig)])
					clear(w.Sig)
				}
				expect := slices.Clone(want)
				expect[at] = api.Leaf{Key: want[at].Key, Set: slices.Clone(want[at].Set)}
				expect[at].Set[i] = w
				if !sameLeaves(told, expect) {
					t.Fatal(at, i, list)
				}
				grown := tree.Leaves()
				_ = append(grown[at].Set, api.Record{})
				_ = append(grown[at].Set[i].Value, "more"...)
				if !sameLeaves(grown, want) {
					t.Fatal(at, i, "grown")
				}
			}
		}
	}
}
