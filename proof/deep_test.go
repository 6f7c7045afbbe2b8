package proof

import (
	"bytes"
	"fmt"
	"slices"
	"strings"
	"testing"

	"buttress/api"
	"buttress/merkle"
	"buttress/sha"
)

// one is a right set of one write.
func one(key string, seq int) []api.Record {
	return []api.Record{{Key: key, Client: 1, Seq: seq, Sig: bytes.Repeat([]byte("s"), 64)}}
}

// leavesOf are leaves of the keys, of one write each.
func leavesOf(keys ...string) []api.Leaf {
	var out []api.Leaf
	for i, k := range keys {
		out = append(out, api.Leaf{Key: k, Set: one(k, i+1)})
	}
	return out
}

// madeUp is a way of which nobody knows a key, with those leaves at its end.
func madeUp(shard int, path string, leaves ...api.Leaf) gone {
	g := gone{shard: shard, path: path}
	for depth := range path {
		g.Side = append(g.Side, sha.Sum([]byte(fmt.Sprint("beside ", depth))))
	}
	g.End = stubs(leaves...)
	return g
}

// sums answers by package merkle the digests of all nodes on the way, from its end up, and the shard's.
func (g gone) sums(leaves ...api.Leaf) [][]byte {
	kind := []api.NodeKind{api.NodeNone, api.NodeLeaf, api.NodeMany}[min(len(leaves), 2)]
	out := [][]byte{merkle.NodeSum(api.Node{Kind: kind, Leaves: leaves})}
	for depth := len(g.path) - 1; depth >= 0; depth-- {
		n := api.Node{Kind: api.NodeSplit, Left: out[len(out)-1], Right: g.Side[depth]}
		if g.path[depth] == '1' {
			n.Left, n.Right = n.Right, n.Left
		}
		out = append(out, merkle.NodeSum(n))
	}
	return append(out, merkle.TopSum(g.shard, out[len(out)-1]))
}

// paths are some of ways that nobody knows a key of.
func paths() []string {
	out := []string{""}
	for _, all := range []string{strings.Repeat("0", 510), strings.Repeat("1", 510), strings.Repeat("01", 255), strings.Repeat("110", 170)} {
		for _, n := range []int{1, 2, 255, 509, 510} {
			out = append(out, all[:n])
		}
	}
	return out
}

// P13.2, P13.4: several leaves on one way, at its very end, are digested as package merkle does; and each of them is said.
func TestManyOnOneWay(t *testing.T) {
	names := []string{"\x00", "a", "a\x00", "b", strings.Repeat("k", 64), "\xff"}
	for i, path := range paths() {
		for n := range len(names) + 1 {
			if n > 1 && len(path) < 510 {
				break
			}
			leaves := leavesOf(names[:n]...)
			g := madeUp(i%4, path, leaves...)
			if !Right(g.Proof) {
				t.Fatal(len(path), n)
			}
			sums, at := g.sums(leaves...), 0
			for text := range g.texts() {
				if !bytes.Equal(sha.Sum(text), sums[at]) {
					t.Fatalf("%d signs, %d leaves: text %d: %x", len(path), n, at, text)
				}
				at++
			}
			if at != len(path)+2 || !bytes.Equal(g.top(), sums[len(sums)-1]) {
				t.Fatalf("%d signs, %d leaves: %d texts, %x", len(path), n, at, g.top())
			}
			for j, name := range names {
				sum := g.says(name)
				if j < n && !bytes.Equal(sum, merkle.SetSum(one(name, j+1))) || j >= n && len(sum) > 0 {
					t.Fatalf("%q of %d: %x", name, n, sum)
				}
				clear(sum)
			}
			if sum := g.says(""); len(sum) > 0 {
				t.Errorf("%x", sum)
			}
		}
	}
}

// P13.3: of several on one way each holds with its own set alone.
func TestManyHold(t *testing.T) {
	leaves := leavesOf("a", "b", "c")
	g := madeUp(2, strings.Repeat("10", 255), leaves...)
	for _, l := range leaves {
		for _, other := range append(leaves, api.Leaf{Key: l.Key, Set: one(l.Key, 9)}, api.Leaf{}) {
			want := other.Key == l.Key && sameSum(other.Set, l.Set)
			if fits(l.Key, g.says(l.Key), other.Set) != want {
				t.Error(l.Key, other.Key)
			}
		}
	}
	if !fits("d", g.says("d"), nil) || fits("d", g.says("d"), one("d", 1)) {
		t.Error("one that is not there")
	}
}

// sameSum says whether two sets have one digest.
func sameSum(a, b []api.Record) bool {
	return bytes.Equal(merkle.SetSum(a), merkle.SetSum(b))
}

// P13.4: who has enough of the texts may stop anywhere.
func TestStop(t *testing.T) {
	for _, path := range []string{"", "0", "1101"} {
		g := madeUp(1, path, leavesOf("a")...)
		all := slices.Collect(g.texts())
		for most := range len(all) + 1 {
			var got [][]byte
			for text := range g.texts() {
				if len(got) == most {
					break
				}
				got = append(got, text)
			}
			if !slices.EqualFunc(got, all[:most], bytes.Equal) {
				t.Fatal(path, most, len(got))
			}
		}
	}
}
