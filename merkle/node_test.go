package merkle_test

import (
	"bytes"
	"fmt"
	"slices"
	"strings"
	"testing"

	"buttress/api"
	"buttress/merkle"
	"buttress/shard"
)

// pairs are two keys of shard 3 each, by how many signs their ways begin with alike.
func pairs() map[int][2]string {
	out := map[int][2]string{38: {"late 2960015", "late 508121"}, 37: {"late 2395241", "late 1803183"}}
	k := keys(3, 60)
	for i, a := range k {
		for _, b := range k[:i] {
			n := 0
			for shard.Bits(a)[n] == shard.Bits(b)[n] {
				n++
			}
			out[n] = [2]string{a, b}
		}
	}
	return out
}

// P12.3: each path of a tree without leaves has no leaf.
func TestNoLeaves(t *testing.T) {
	for s := range 4 {
		tree := merkle.New(s)
		for _, path := range []string{"", "0", "1", "01", "10", strings.Repeat("0", 510), strings.Repeat("1", 509), strings.Repeat("01", 255)} {
			checkNode(t, tree, path, api.Node{Kind: api.NodeNone}, "no leaves")
		}
	}
}

// P12.3: a leaf alone stands at each path that its way begins with, and at no other one.
func TestOneLeaf(t *testing.T) {
	key := keys(2, 1)[0]
	l := leafOf(key, 3, 0)
	tree := treeOf(t, 2, l)
	way := shard.Bits(key)
	for depth := range len(way) + 1 {
		checkNode(t, tree, way[:depth], api.Node{Kind: api.NodeLeaf, Leaves: []api.Leaf{l}}, "one leaf")
		if depth > 0 {
			checkNode(t, tree, way[:depth-1]+other(way[depth-1:depth]), api.Node{Kind: api.NodeNone}, "beside one leaf")
		}
	}
	check(t, tree, modelOf(2, l), "one leaf")
}

// P12.3: two leaves, whose ways part at once, and as late as those of keys that were ever found.
func TestTwoLeaves(t *testing.T) {
	for same, two := range pairs() {
		a, b := leafOf(two[0], 1, 0), leafOf(two[1], 2, 0)
		tree := treeOf(t, 3, a, b)
		check(t, tree, modelOf(3, a, b), fmt.Sprint(same, " signs alike"))
		way := shard.Bits(two[0])
		for depth := range 511 {
			n, err := tree.Node(way[:depth])
			want := api.NodeSplit
			if depth > same {
				want = api.NodeLeaf
			}
			if err != api.OK || n.Kind != want {
				t.Errorf("%d signs alike: at %d: %s, %v", same, depth, show(n), err)
			}
		}
		for i, one := range []api.Leaf{a, b} { // the splits are gone when they are
			tree.Put(api.Leaf{Key: two[i]})
			left := []api.Leaf{b, a}[i]
			check(t, tree, modelOf(3, left), fmt.Sprint(same, " signs alike, one is out"))
			tree.Put(one)
			check(t, tree, modelOf(3, a, b), fmt.Sprint(same, " signs alike, both once more"))
		}
	}
	if len(pairs()) < 8 {
		t.Error("few pairs:", len(pairs()))
	}
}

// P12.3: many leaves, each of the four shards.
func TestManyLeaves(t *testing.T) {
	for s := range 4 {
		leaves := leavesOf(append(keys(s, 300), oddKeys(s)...), s)
		tree := treeOf(t, s, leaves...)
		check(t, tree, modelOf(s, leaves...), fmt.Sprint("shard ", s))
	}
	two := pairs()
	leaves := leavesOf([]string{two[38][0], two[37][0], two[38][1], two[37][1], two[0][0], two[0][1]}, 0)
	check(t, treeOf(t, 3, leaves...), modelOf(3, leaves...), "some late, some early")
}

// P12.3: a text that is no path has no node, and no digest.
func TestNoPath(t *testing.T) {
	long := strings.Repeat("0", 510)
	way := shard.Bits(keys(1, 1)[0])
	texts := []string{long + "0", long + "1", way + "0", way + "1", way + "2", long + long, strings.Repeat("1", 1<<20), "０", "１", "²", "0\n", "\n0", "0 1", "-0", "+1", "0b1", "1.0", "0x0", "\xff", "0\x00"}
	for b := range 256 {
		text := string([]byte{byte(b)})
		if b == '0' || b == '1' {
			continue
		}
		texts = append(texts, text, "0"+text, text+"1", "0"+text+"1", way[:509]+text, way[:300]+text+way[301:], text+way[1:])
	}
	for _, tree := range []*merkle.Tree{merkle.New(1), treeOf(t, 1, leavesOf(keys(1, 1), 0)...), treeOf(t, 1, leavesOf(keys(1, 20), 0)...)} {
		for _, text := range texts {
			if n, err := tree.Node(text); err != api.ErrArg || !sameNode(n, api.Node{}) {
				t.Fatalf("%.600q: %s, %v", text, show(n), err)
			}
			if sum := tree.Sum(text); len(sum) != 0 {
				t.Fatalf("%.600q: %x", text, sum)
			}
		}
	}
}

// P12.3: leaves are told by rising keys, byte by byte, however they were put, and wherever their ways go.
func TestLeaves(t *testing.T) {
	for s := range 4 {
		k := append(keys(s, 120), oddKeys(s)...)
		tree := merkle.New(s)
		for i, l := range leavesOf(k, 0) {
			if err := tree.Put(l); err != api.OK {
				t.Fatal(err)
			}
			if i%40 == 0 {
				check(t, tree, modelOf(s, leavesOf(k[:i+1], 0)...), "some")
			}
		}
		var got []string
		for _, l := range tree.Leaves() {
			got = append(got, l.Key)
		}
		slices.Sort(k)
		if !slices.Equal(got, k) {
			t.Errorf("%q", got)
		}
	}
}

// P12.3: a copy is the same, and goes on apart from its tree, either way; so does a copy of a copy.
func TestCopy(t *testing.T) {
	for s := range 4 {
		k := keys(s, 40)
		for _, many := range []int{0, 1, 2, 20} {
			leaves := leavesOf(k[:many], 0)
			tree, m := treeOf(t, s, leaves...), modelOf(s, leaves...)
			trees, models := []*merkle.Tree{tree}, []*model{m}
			for n := range 4 { // each one a copy of the one ahead of it; all go on, each with other leaves
				c := trees[n].Copy()
				if c == nil || c == trees[n] {
					t.Fatal("no copy")
				}
				trees, models = append(trees, c), append(models, models[n].copy())
				check(t, c, models[n+1], "a copy")
				for i := range trees {
					news := append(leavesOf(k[3*n+i:4*n+i+5], 5*n+i+1), emptied(k[9*i:9*i+n])...)
					if err := trees[i].Put(news...); err != api.OK {
						t.Fatal(err)
					}
					models[i].put(news...)
					for j := range trees {
						check(t, trees[j], models[j], fmt.Sprint(j, " of ", len(trees), ", when ", i, " went on"))
					}
				}
			}
		}
	}
}

// P12.3: what was refused, and what is asked of a copy, does nothing to its tree.
func TestCopyRefused(t *testing.T) {
	leaves := leavesOf(keys(1, 9), 0)
	tree, m := treeOf(t, 1, leaves...), modelOf(1, leaves...)
	c := tree.Copy()
	if err := c.Put(leafOf(keys(1, 1)[0], 1, 7), leafOf(keys(0, 1)[0], 1, 0)); err != api.ErrShard {
		t.Error(err)
	}
	c.Leaves()
	c.Sum("0")
	c.Top()
	check(t, tree, m, "the tree")
	check(t, c, m, "the copy")
}

// P12.2, P12.3: what neither New nor Copy answered is no tree.
func TestNoTree(t *testing.T) {
	leaves := leavesOf(keys(0, 5), 0)
	of := treeOf(t, 0, leaves...)
	taken, copied, fresh := *of, *of.Copy(), *merkle.New(0)
	var none *merkle.Tree
	for i, tree := range []*merkle.Tree{none, {}, new(merkle.Tree), &taken, &copied, &fresh} {
		for range 2 {
			for _, l := range [][]api.Leaf{nil, leaves, {{}}, leavesOf(keys(1, 1), 0), {{Key: leaves[0].Key, Set: wrongSets()["falling"]}}, emptied(keys(0, 5))} {
				if err := tree.Put(l...); err != api.ErrNil {
					t.Error(i, err)
				}
			}
			for _, path := range []string{"", "0", shard.Bits(leaves[0].Key), "2", strings.Repeat("0", 511)} {
				if n, err := tree.Node(path); err != api.ErrNil || !sameNode(n, api.Node{}) {
					t.Error(i, path, show(n), err)
				}
				if sum := tree.Sum(path); len(sum) != 0 {
					t.Errorf("%d: %q: %x", i, path, sum)
				}
			}
			for _, key := range []string{"", leaves[0].Key, keys(1, 1)[0], string(some(65))} {
				if set := tree.Get(key); len(set) != 0 {
					t.Error(i, show(set))
				}
			}
			if tree.Shard() != -1 || len(tree.Top()) != 0 || len(tree.Leaves()) != 0 || tree.Copy() != nil {
				t.Error(i, tree.Shard(), tree.Top(), tree.Leaves(), tree.Copy())
			}
		}
	}
	check(t, of, modelOf(0, leaves...), "the tree itself")
}

// P12.3: Node of no tree tells that, ahead of what is wrong with the path; of a tree a wrong path tells nothing more.
func TestNodeErrors(t *testing.T) {
	var none *merkle.Tree
	tree := treeOf(t, 0, leavesOf(keys(0, 3), 0)...)
	for path, want := range map[string][2]api.Errno{"": {api.ErrNil, api.OK}, "2": {api.ErrNil, api.ErrArg}, strings.Repeat("1", 510): {api.ErrNil, api.OK}, strings.Repeat("1", 511): {api.ErrNil, api.ErrArg}} {
		_, one := none.Node(path)
		_, two := tree.Node(path)
		if one != want[0] || two != want[1] {
			t.Error(path, one, two)
		}
	}
}

// P12.3: Sum is that of the halves that Node tells.
func TestHalves(t *testing.T) {
	tree := treeOf(t, 2, leavesOf(keys(2, 100), 0)...)
	splits := 0
	nodes, _ := modelOf(2, tree.Leaves()...).nodes()
	for path := range nodes {
		n, err := tree.Node(path)
		if err != api.OK || !bytes.Equal(merkle.NodeSum(n), tree.Sum(path)) {
			t.Fatal(path, show(n), err)
		}
		if n.Kind == api.NodeSplit {
			splits++
			if !bytes.Equal(n.Left, tree.Sum(path+"0")) || !bytes.Equal(n.Right, tree.Sum(path+"1")) {
				t.Fatal(path, show(n))
			}
		}
	}
	if splits < 99 {
		t.Error("few splits:", splits)
	}
}
