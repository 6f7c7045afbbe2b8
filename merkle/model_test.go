package merkle_test

import (
	"bytes"
	"crypto/sha512"
	"encoding/binary"
	"fmt"
	"maps"
	"math/rand"
	"slices"
	"strconv"
	"strings"
	"testing"

	"buttress/api"
	"buttress/merkle"
	"buttress/shard"
	"buttress/sibling"
)

// some is n bytes, the same for each n, without a period.
func some(n int) []byte {
	b := make([]byte, n)
	rand.New(rand.NewSource(int64(n) + 12)).Read(b)
	return b
}

// write is a right record, with a signature's bytes that nobody made; the context's numbers stand one behind the other.
func write(key string, client, seq int, context ...int) api.Record {
	r := api.Record{Key: key, Client: client, Seq: seq, Sig: some(64)}
	for k := 0; k+1 < len(context); k += 2 {
		r.Context = append(r.Context, api.Dot{Client: context[k], Seq: context[k+1]})
	}
	return r
}

// with answers the record, turned.
func with(r api.Record, turn func(r *api.Record)) api.Record {
	r = copied(r)
	turn(&r)
	return r
}

// copied is the same record in memory of its own.
func copied(r api.Record) api.Record {
	r.Context, r.Value, r.Sig = slices.Clone(r.Context), slices.Clone(r.Value), slices.Clone(r.Sig)
	return r
}

// copies are the same records in memory of their own.
func copies(set []api.Record) []api.Record {
	var out []api.Record
	for _, r := range set {
		out = append(out, copied(r))
	}
	return out
}

// leafOf is a key's leaf with so many writes beside each other, of a kind: unlike kinds, and numbers, are unlike sets.
func leafOf(key string, many, kind int) api.Leaf {
	l := api.Leaf{Key: key}
	for n := range many {
		r := write(key, n%7+1, n/7+kind+1, 8, 1<<29)
		if r.Gone = n%4 == 3; !r.Gone {
			r.Value = some(n)
		}
		l.Set = append(l.Set, r)
	}
	slices.SortFunc(l.Set, func(a, b api.Record) int {
		if a.Client != b.Client {
			return a.Client - b.Client
		}
		return a.Seq - b.Seq
	})
	return l
}

// sameSet says whether two rows have the same records; lists without elements and nil ones are one.
func sameSet(a, b []api.Record) bool {
	return slices.EqualFunc(a, b, func(a, b api.Record) bool {
		return a.Key == b.Key && a.Client == b.Client && a.Seq == b.Seq && a.Gone == b.Gone &&
			slices.Equal(a.Context, b.Context) && bytes.Equal(a.Value, b.Value) && bytes.Equal(a.Sig, b.Sig)
	})
}

func sameLeaves(a, b []api.Leaf) bool {
	return slices.EqualFunc(a, b, func(a, b api.Leaf) bool { return a.Key == b.Key && sameSet(a.Set, b.Set) })
}

func sameNode(a, b api.Node) bool {
	return a.Kind == b.Kind && bytes.Equal(a.Left, b.Left) && bytes.Equal(a.Right, b.Right) && sameLeaves(a.Leaves, b.Leaves)
}

// show tells of a thing as much as can be read.
func show(x any) string {
	s := fmt.Sprintf("%+v", x)
	return strconv.QuoteToASCII(s[:min(len(s), 600)])
}

// hash is H of the parts, by another SHA-512.
func hash(parts ...any) []byte {
	h := sha512.New()
	for _, part := range parts {
		switch x := part.(type) {
		case int: // a byte
			h.Write([]byte{byte(x)})
		case string: // with its number ahead
			h.Write(binary.BigEndian.AppendUint64(nil, uint64(len(x))))
			h.Write([]byte(x))
		case []byte:
			h.Write(x)
		}
	}
	return h.Sum(nil)
}

// setSum is a right set's digest by the chapter's words.
func setSum(set []api.Record) []byte {
	b, err := sibling.Put(set)
	if err != api.OK {
		panic(show(set))
	}
	return hash(5, b)
}

// nodeSum is a right node's digest by the chapter's words.
func nodeSum(n api.Node) []byte {
	switch n.Kind {
	case api.NodeNone:
		return hash(0)
	case api.NodeLeaf:
		return hash(1, n.Leaves[0].Key, setSum(n.Leaves[0].Set))
	case api.NodeSplit:
		return hash(2, n.Left, n.Right)
	case api.NodeMany:
		parts := []any{3}
		for _, l := range n.Leaves {
			parts = append(parts, l.Key, setSum(l.Set))
		}
		return hash(parts...)
	}
	panic(show(n))
}

// model is a tree by the chapter's words.
type model struct {
	shard int
	sets  map[string][]api.Record
	ways  map[string]string // of all keys that were put
}

func newModel(shard int) *model {
	return &model{shard, map[string][]api.Record{}, map[string]string{}}
}

// modelOf is one with these leaves.
func modelOf(shard int, leaves ...api.Leaf) *model {
	m := newModel(shard)
	m.put(leaves...)
	return m
}

func (m *model) put(leaves ...api.Leaf) {
	for _, l := range leaves {
		m.ways[l.Key] = shard.Bits(l.Key)
		m.sets[l.Key] = copies(l.Set)
		if len(l.Set) == 0 {
			delete(m.sets, l.Key)
		}
	}
}

func (m *model) copy() *model {
	return &model{m.shard, maps.Clone(m.sets), maps.Clone(m.ways)}
}

// leaves are all, by rising keys.
func (m *model) leaves() []api.Leaf {
	return m.told(slices.Sorted(maps.Keys(m.sets)))
}

func (m *model) told(keys []string) []api.Leaf {
	var out []api.Leaf
	for _, key := range keys {
		out = append(out, api.Leaf{Key: key, Set: m.sets[key]})
	}
	return out
}

// under answers those of the keys that are under the path.
func (m *model) under(keys []string, path string) []string {
	var out []string
	for _, key := range keys {
		if strings.HasPrefix(m.ways[key], path) {
			out = append(out, key)
		}
	}
	return out
}

// walk tells of the node at a path, and of all below it: ahead of that at the path those behind it; and its digest. The keys are all under the path, rising.
func (m *model) walk(path string, keys []string, tell func(path string, n api.Node)) []byte {
	n := api.Node{Kind: api.NodeNone, Leaves: m.told(keys)}
	switch {
	case len(keys) == 1:
		n.Kind = api.NodeLeaf
	case len(keys) > 1 && len(path) == 510:
		n.Kind = api.NodeMany
	case len(keys) > 1:
		n = api.Node{
			Kind:  api.NodeSplit,
			Left:  m.walk(path+"0", m.under(keys, path+"0"), tell),
			Right: m.walk(path+"1", m.under(keys, path+"1"), tell),
		}
	}
	tell(path, n)
	return nodeSum(n)
}

// nodes answers those at all paths down to the first ones that are no split; and the tree's digest.
func (m *model) nodes() (map[string]api.Node, []byte) {
	out := map[string]api.Node{}
	sum := m.walk("", slices.Sorted(maps.Keys(m.sets)), func(path string, n api.Node) { out[path] = n })
	return out, hash(4, m.shard, sum)
}

// check fails, unless the tree tells in each call just what the chapter's words say.
func check(t *testing.T, tree *merkle.Tree, m *model, of string) {
	t.Helper()
	nodes, top := m.nodes()
	if got := tree.Shard(); got != m.shard {
		t.Fatalf("%s: shard %d", of, got)
	}
	if got := tree.Top(); !bytes.Equal(got, top) {
		t.Fatalf("%s: top %x, not %x", of, got, top)
	}
	if got := tree.Leaves(); !sameLeaves(got, m.leaves()) {
		t.Fatalf("%s: leaves %s", of, show(got))
	}
	for key := range m.ways { // those that were taken out, too
		if got := tree.Get(key); !sameSet(got, m.sets[key]) {
			t.Fatalf("%s: %q: %s", of, key, show(got))
		}
	}
	for path, n := range nodes {
		checkNode(t, tree, path, n, of)
		if n.Kind != api.NodeSplit && len(path) < 510 {
			m.checkBelow(t, tree, path, n, of)
		}
	}
}

// checkBelow looks at some paths behind one at which no split stands: none or one is under each of them, whatever is behind it.
func (m *model) checkBelow(t *testing.T, tree *merkle.Tree, path string, n api.Node, of string) {
	t.Helper()
	ends := []string{path + "0", path + "1", path + strings.Repeat("1", 510-len(path))}
	for _, l := range n.Leaves {
		way := m.ways[l.Key]
		ends = append(ends, way, way[:509], way[:509]+other(way[509:]), way[:(len(path)+510)/2])
	}
	for _, end := range ends {
		want := api.Node{Kind: api.NodeNone}
		if n.Kind == api.NodeLeaf && strings.HasPrefix(m.ways[n.Leaves[0].Key], end) {
			want = n
		}
		checkNode(t, tree, end, want, of)
	}
}

// other is the other sign.
func other(sign string) string {
	return map[string]string{"0": "1", "1": "0"}[sign]
}

// checkNode fails, unless Node and Sum tell just that node of a path.
func checkNode(t *testing.T, tree *merkle.Tree, path string, n api.Node, of string) {
	t.Helper()
	if got, err := tree.Node(path); err != api.OK || !sameNode(got, n) {
		t.Fatalf("%s: at %q: %s, %v, not %s", of, path, show(got), err, show(n))
	}
	if got := tree.Sum(path); !bytes.Equal(got, nodeSum(n)) {
		t.Fatalf("%s: at %q: %x", of, path, got)
	}
}

// keys are so many of a shard.
func keys(s, many int) []string {
	var out []string
	for n := 0; len(out) < many; n++ {
		if k := fmt.Sprintf("key %d", n); shard.Of(k) == s {
			out = append(out, k)
		}
	}
	return out
}

// oddKeys are those of a shard among keys that are no text, that look alike, and that have 1, 63 and 64 bytes.
func oddKeys(s int) []string {
	all := []string{"\x00", "\x00\x00", " ", "\n", "a", "A", "a ", "a\x00", "\x00a", "\xc3\xa9", "e\xcc\x81", "\xe9", "\xff", "\xfe", "\x80", "\xff\xff", "\xef\xbf\xbd"}
	for n := range 40 {
		all = append(all, string(some(63-n%2)), string(append(some(62), byte(n), 'x')), string(some(64)), strings.Repeat(string([]byte{byte('A' + n)}), 64), string([]byte{byte(6 * n)}))
	}
	var out []string
	for _, k := range all {
		if shard.Of(k) == s && !slices.Contains(out, k) {
			out = append(out, k)
		}
	}
	return out
}

// leavesOf are leaves of the keys, of one to three writes each.
func leavesOf(keys []string, kind int) []api.Leaf {
	var out []api.Leaf
	for i, key := range keys {
		out = append(out, leafOf(key, i%3+1, kind))
	}
	return out
}

// treeOf is a tree with these leaves, put at once.
func treeOf(t *testing.T, shard int, leaves ...api.Leaf) *merkle.Tree {
	t.Helper()
	tree := merkle.New(shard)
	if err := tree.Put(leaves...); err != api.OK {
		t.Fatal(show(leaves), err)
	}
	return tree
}

// mixed are the leaves in an order that r chooses.
func mixed(r *rand.Rand, all []api.Leaf) []api.Leaf {
	out := slices.Clone(all)
	r.Shuffle(len(out), func(i, j int) { out[i], out[j] = out[j], out[i] })
	return out
}

// The model's leaves are right, and unlike where their numbers or kinds are.
func TestModel(t *testing.T) {
	seen := map[string]bool{}
	for many := 1; many < 20; many++ {
		for kind := range 5 {
			l := leafOf("k", many, kind)
			if !sibling.Right(l.Set) || len(l.Set) != many {
				t.Fatal(show(l))
			}
			seen[string(setSum(l.Set))] = true
		}
	}
	if len(seen) != 19*5 {
		t.Error(len(seen))
	}
}
