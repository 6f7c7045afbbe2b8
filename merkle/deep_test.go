package merkle

import (
	"bytes"
	"crypto/sha512"
	"math/rand"
	"slices"
	"strings"
	"testing"

	"buttress/api"
	"buttress/wire"
)

// at answers a leaf on a way that no key of that name has: nobody has seen two keys on one way.
func at(way, key string, seq int) *leaf {
	set := []api.Record{{Key: key, Client: 1, Seq: seq, Sig: make([]byte, 64)}}
	return &leaf{Leaf: api.Leaf{Key: key, Set: set}, way: way, sum: SetSum(set)}
}

// out answers the leaf without writes.
func out(x *leaf) *leaf {
	return &leaf{Leaf: api.Leaf{Key: x.Key}, way: x.way, sum: SetSum(nil)}
}

func hash(parts ...[]byte) []byte {
	sum := sha512.Sum512(bytes.Join(parts, nil))
	return sum[:]
}

// words answers by the chapter's words the node at a path with these leaves under it, by rising keys, and its digest; it tells ahead of that of all below.
func words(path string, under []*leaf, tell func(path string, n api.Node, sum []byte)) []byte {
	n, sum := api.Node{Kind: api.NodeNone}, hash([]byte{0})
	texts := func(mark byte) []byte {
		parts := [][]byte{{mark}}
		for _, x := range under {
			parts = append(parts, wire.Bytes([]byte(x.Key)), SetSum(x.Set))
			n.Leaves = append(n.Leaves, x.Leaf)
		}
		return hash(parts...)
	}
	switch {
	case len(under) == 1:
		n.Kind, sum = api.NodeLeaf, texts(1)
	case len(under) > 1 && len(path) == 510:
		n.Kind, sum = api.NodeMany, texts(3)
	case len(under) > 1:
		half := func(sign string) []byte {
			var of []*leaf
			for _, x := range under {
				if strings.HasPrefix(x.way, path+sign) {
					of = append(of, x)
				}
			}
			return words(path+sign, of, tell)
		}
		n = api.Node{Kind: api.NodeSplit, Left: half("0"), Right: half("1")}
		sum = hash([]byte{2}, n.Left, n.Right)
	}
	tell(path, n, sum)
	return sum
}

// check fails, unless a tree tells of just these leaves what the chapter's words say, and keeps just the digests of its splits.
func check(t *testing.T, tree *Tree, leaves []*leaf, of string) {
	t.Helper()
	leaves = slices.Clone(leaves)
	slices.SortFunc(leaves, func(a, b *leaf) int { return strings.Compare(a.Key, b.Key) })
	splits := 0
	top := words("", leaves, func(path string, n api.Node, sum []byte) {
		t.Helper()
		got, err := tree.Node(path)
		if err != api.OK || !sameNode(got, n) || !bytes.Equal(tree.Sum(path), sum) || !bytes.Equal(NodeSum(got), sum) {
			t.Fatalf("%s: at %d signs %q: %v, %v", of, len(path), path, got.Kind, err)
		}
		if n.Kind == api.NodeSplit {
			splits++
			if !bytes.Equal(tree.sums[path], sum) {
				t.Fatalf("%s: the digest at %q is not kept", of, path)
			}
		}
	})
	if splits != len(tree.sums) {
		t.Fatalf("%s: %d digests are kept, of %d splits", of, len(tree.sums), splits)
	}
	if !bytes.Equal(tree.Top(), hash([]byte{4, byte(tree.Shard())}, top)) {
		t.Fatalf("%s: top %x", of, tree.Top())
	}
	told := tree.Leaves()
	if !slices.EqualFunc(told, leaves, func(a api.Leaf, b *leaf) bool { return sameLeaf(a, b.Leaf) }) {
		t.Fatalf("%s: leaves %v", of, told)
	}
}

func sameLeaf(a, b api.Leaf) bool {
	return a.Key == b.Key && bytes.Equal(SetSum(a.Set), SetSum(b.Set))
}

func sameNode(a, b api.Node) bool {
	return a.Kind == b.Kind && bytes.Equal(a.Left, b.Left) && bytes.Equal(a.Right, b.Right) && slices.EqualFunc(a.Leaves, b.Leaves, sameLeaf)
}

// ways are some of 510 signs: of one sign, and of many, that part at each place.
func ways() []string {
	out := []string{strings.Repeat("0", 510), strings.Repeat("1", 510), strings.Repeat("01", 255)}
	for _, depth := range []int{0, 1, 2, 63, 255, 256, 507, 508, 509} {
		for _, way := range out[:3] {
			sign := "0"
			if way[depth] == '0' {
				sign = "1"
			}
			out = append(out, way[:depth]+sign+way[depth+1:])
		}
	}
	return out
}

// P12.1, P12.3, P12.4: two keys on one way stand in one node at its end, below as many splits as there may be.
func TestOneWay(t *testing.T) {
	for i, way := range ways() {
		tree := New(i % 4)
		b, a, c := at(way, "b", 1), at(way, "a", 2), at(way, "c", 3)
		for _, step := range []struct {
			change []*leaf
			left   []*leaf
			kind   api.NodeKind
		}{
			{nil, nil, api.NodeNone},
			{[]*leaf{b}, []*leaf{b}, api.NodeLeaf},
			{[]*leaf{a}, []*leaf{a, b}, api.NodeMany},
			{[]*leaf{c}, []*leaf{a, b, c}, api.NodeMany},
			{[]*leaf{out(b), out(b)}, []*leaf{a, c}, api.NodeMany},
			{[]*leaf{at(way, "c", 9)}, []*leaf{a, at(way, "c", 9)}, api.NodeMany},
			{[]*leaf{out(c)}, []*leaf{a}, api.NodeLeaf},
			{[]*leaf{out(a), c, b, out(c), a}, []*leaf{a, b}, api.NodeMany},
			{[]*leaf{out(a), out(b)}, nil, api.NodeNone},
		} {
			tree.change(step.change...)
			check(t, tree, step.left, way[:9])
			if n, err := tree.Node(way); err != api.OK || n.Kind != step.kind {
				t.Fatal(n.Kind, err)
			}
		}
	}
}

// P12.3, P12.4: two keys whose ways part early, late, at the last sign, and between.
func TestPartings(t *testing.T) {
	for depth := range 510 {
		if 20 < depth && depth < 490 && depth%9 > 0 {
			continue
		}
		way := ways()[depth%len(ways())]
		twin := way[:depth] + string(way[depth]^1) + way[depth+1:]
		tree, a, b := New(3), at(way, "b", 1), at(twin, "a", 1)
		tree.change(a, b)
		check(t, tree, []*leaf{a, b}, "both")
		if n, _ := tree.Node(way[:depth]); n.Kind != api.NodeSplit {
			t.Fatal(depth, n.Kind)
		}
		tree.change(at(twin, "a", 2))
		check(t, tree, []*leaf{a, at(twin, "a", 2)}, "turned")
		tree.change(out(a))
		check(t, tree, []*leaf{at(twin, "a", 2)}, "one")
	}
}

// P12.4: many keys on ways that share long beginnings, put and taken out as chance chooses.
func TestDeep(t *testing.T) {
	rnd := rand.New(rand.NewSource(126))
	for range 3 {
		tree, there := New(2), map[string]*leaf{}
		for step := range 24 {
			var news []*leaf
			for range 1 + rnd.Intn(4) {
				n := rnd.Intn(2 * len(ways()))
				x := at(ways()[n/2], string([]byte{byte('a' + n), 'x'}), 1+rnd.Intn(3))
				there[x.Key] = x
				if rnd.Intn(3) == 0 {
					delete(there, x.Key)
					x = out(x)
				}
				news = append(news, x)
			}
			tree.change(news...)
			var left []*leaf
			for _, x := range there {
				left = append(left, x)
			}
			check(t, tree, left, "deep")
			if step%8 > 0 {
				continue
			}
			c := tree.Copy()
			check(t, c, left, "a copy")
			c.change(at(ways()[0], "!", 1))
			check(t, tree, left, "its copy went on")
			check(t, c, append(left, at(ways()[0], "!", 1)), "the copy that went on")
		}
	}
}
