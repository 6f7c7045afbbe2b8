package proof_test

import (
	"bytes"
	"cmp"
	"crypto/sha512"
	"encoding/binary"
	"fmt"
	"maps"
	"math/rand"
	"slices"
	"strconv"
	"strings"
	"testing"

	"buttress/api"
	"buttress/merkle"
	"buttress/proof"
	"buttress/shard"
	"buttress/sibling"
)

// some is n bytes, the same for each n, without a period.
func some(n int) []byte {
	b := make([]byte, n)
	rand.New(rand.NewSource(int64(n) + 13)).Read(b)
	return b
}

// digest is 64 bytes, unlike ones for unlike numbers.
func digest(n int) []byte {
	return hash("digest " + strconv.Itoa(n))
}

// digests are n unlike ones.
func digests(n int) [][]byte {
	var out [][]byte
	for i := range n {
		out = append(out, digest(i))
	}
	return out
}

// names are those that things stand by, in an order that is the same each time.
func names[T any](things map[string]T) []string {
	return slices.Sorted(maps.Keys(things))
}

// write is a right record, with a signature's bytes that nobody made; the context's numbers stand one behind the other.
func write(key string, client, seq int, context ...int) api.Record {
	r := api.Record{Key: key, Client: client, Seq: seq, Sig: some(64)}
	for k := 0; k+1 < len(context); k += 2 {
		r.Context = append(r.Context, api.Dot{Client: context[k], Seq: context[k+1]})
	}
	return r
}

// copied is the same record in memory of its own.
func copied(r api.Record) api.Record {
	r.Context, r.Value, r.Sig = slices.Clone(r.Context), slices.Clone(r.Value), slices.Clone(r.Sig)
	return r
}

// copies are the same records in memory of their own.
func copies(set []api.Record) []api.Record {
	var out []api.Record
	for _, r := range set {
		out = append(out, copied(r))
	}
	return out
}

// turned answers the set, with its record at that place turned.
func turned(set []api.Record, at int, turn func(r *api.Record)) []api.Record {
	set = copies(set)
	turn(&set[at])
	return set
}

// setOf is a right set of a key, with so many writes, of a kind: unlike kinds, and numbers, are unlike sets.
func setOf(key string, many, kind int) []api.Record {
	var set []api.Record
	for n := range many {
		r := write(key, n%7+1, n/7+kind+1, 8, 1<<29)
		if r.Gone = n%4 == 3; !r.Gone {
			r.Value = some(n)
		}
		set = append(set, r)
	}
	slices.SortFunc(set, func(a, b api.Record) int { return cmp.Or(a.Client-b.Client, a.Seq-b.Seq) })
	return set
}

// leavesOf are leaves of the keys, of one to three writes each.
func leavesOf(keys []string, kind int) []api.Leaf {
	var out []api.Leaf
	for i, key := range keys {
		out = append(out, api.Leaf{Key: key, Set: setOf(key, i%3+1, kind)})
	}
	return out
}

// treeOf is a tree with these leaves.
func treeOf(t *testing.T, s int, leaves ...api.Leaf) *merkle.Tree {
	t.Helper()
	tree := merkle.New(s)
	if err := tree.Put(leaves...); err != api.OK {
		t.Fatal(show(leaves), err)
	}
	return tree
}

// show tells of a thing as much as can be read.
func show(x any) string {
	s := fmt.Sprintf("%+v", x)
	return strconv.QuoteToASCII(s[:min(len(s), 600)])
}

// sameSet says whether two rows have the same records; lists without elements and nil ones are one.
func sameSet(a, b []api.Record) bool {
	return slices.EqualFunc(a, b, func(a, b api.Record) bool {
		return a.Key == b.Key && a.Client == b.Client && a.Seq == b.Seq && a.Gone == b.Gone &&
			slices.Equal(a.Context, b.Context) && bytes.Equal(a.Value, b.Value) && bytes.Equal(a.Sig, b.Sig)
	})
}

// sameProof says whether two proofs are the same; lists without elements and nil ones are one.
func sameProof(a, b api.Proof) bool {
	return slices.EqualFunc(a.Side, b.Side, bytes.Equal) && slices.EqualFunc(a.End, b.End, func(a, b api.Stub) bool {
		return a.Key == b.Key && bytes.Equal(a.Sum, b.Sum)
	})
}

// apart is the same proof in memory of its own.
func apart(p api.Proof) api.Proof {
	var out api.Proof
	for _, sum := range p.Side {
		out.Side = append(out.Side, slices.Clone(sum))
	}
	for _, s := range p.End {
		out.End = append(out.End, api.Stub{Key: s.Key, Sum: slices.Clone(s.Sum)})
	}
	return out
}

// text is the parts, one behind the other: a number is a byte, a string stands with its number ahead.
func text(parts ...any) []byte {
	var b []byte
	for _, part := range parts {
		switch x := part.(type) {
		case int:
			b = append(b, byte(x))
		case string:
			b = append(binary.BigEndian.AppendUint64(b, uint64(len(x))), x...)
		case []byte:
			b = append(b, x...)
		}
	}
	return b
}

// hash is H of the parts, by another SHA-512.
func hash(parts ...any) []byte {
	sum := sha512.Sum512(text(parts...))
	return sum[:]
}

// number is a number's eight bytes.
func number(n int) []byte {
	return binary.BigEndian.AppendUint64(nil, uint64(n))
}

// setText is a set's text by the chapters' words, whatever it is.
func setText(set []api.Record) []byte {
	b := text(5, number(len(set)))
	for _, r := range set {
		own := text(1, r.Key, number(r.Client), number(r.Seq), number(len(r.Context)))
		for _, d := range r.Context {
			own = text(own, number(d.Client), number(d.Seq))
		}
		gone := 0
		if r.Gone {
			gone = 1
		}
		b = text(b, string(text(own, gone, string(r.Value), r.Sig)))
	}
	return b
}

// setSum is the digest of that.
func setSum(set []api.Record) []byte {
	return hash(setText(set))
}

// place is where a key stands: its shard, and its way.
type place struct {
	shard int
	way   string
}

var places = map[string]place{} // those that were reckoned

// placeOf answers where a key stands, by the words of the shards' chapter.
func placeOf(key string) place {
	at, is := places[key]
	if !is {
		var bits strings.Builder
		for _, b := range hash(6, []byte(key)) {
			fmt.Fprintf(&bits, "%08b", b)
		}
		all := bits.String()
		n, _ := strconv.ParseInt(all[:2], 2, 64)
		at = place{int(n), all[2:]}
		places[key] = at
	}
	return at
}

// stubsOf are the leaves' stubs, by rising keys.
func stubsOf(leaves ...api.Leaf) []api.Stub {
	var out []api.Stub
	for _, l := range leaves {
		if len(l.Set) > 0 {
			out = append(out, api.Stub{Key: l.Key, Sum: setSum(l.Set)})
		}
	}
	slices.SortFunc(out, func(a, b api.Stub) int { return cmp.Compare(a.Key, b.Key) })
	return out
}

// half answers those stubs whose keys' ways have the sign at that depth.
func half(stubs []api.Stub, depth int, sign byte) []api.Stub {
	var out []api.Stub
	for _, s := range stubs {
		if placeOf(s.Key).way[depth] == sign {
			out = append(out, s)
		}
	}
	return out
}

// endText is the text of a node that is no split, with these stubs.
func endText(stubs []api.Stub) []byte {
	b := text(min(len(stubs), 2)) // none: 0; one: 1
	if len(stubs) > 1 {
		b = text(3)
	}
	for _, s := range stubs {
		b = text(b, s.Key, s.Sum)
	}
	return b
}

// nodeSum is the digest of a tree's node that deep, with these stubs under it.
func nodeSum(stubs []api.Stub, depth int) []byte {
	if len(stubs) < 2 || depth == 510 {
		return hash(endText(stubs))
	}
	return hash(2, nodeSum(half(stubs, depth, '0'), depth+1), nodeSum(half(stubs, depth, '1'), depth+1))
}

// topOf is the digest of a shard's tree with these stubs.
func topOf(s int, stubs []api.Stub) []byte {
	return hash(4, s, nodeSum(stubs, 0))
}

// proofOf is the proof of a key, in a tree with these stubs.
func proofOf(stubs []api.Stub, key string) api.Proof {
	var p api.Proof
	for way := placeOf(key).way; len(stubs) > 1 && len(p.Side) < 510; {
		depth := len(p.Side)
		p.Side = append(p.Side, nodeSum(half(stubs, depth, way[depth]^1), depth+1))
		stubs = half(stubs, depth, way[depth])
	}
	p.End = stubs
	return p
}

// isKey says whether a key may be that long.
func isKey(key string) bool {
	return len(key) > 0 && len(key) < 65
}

// isRight says whether a proof is right, by the chapter's words.
func isRight(p api.Proof) bool {
	for _, sum := range p.Side {
		if len(sum) != 64 {
			return false
		}
	}
	for i, s := range p.End {
		if !isKey(s.Key) || len(s.Sum) != 64 || i > 0 && s.Key <= p.End[i-1].Key {
			return false
		}
	}
	return len(p.Side) < 511 && (len(p.End) < 2 || len(p.Side) > 509)
}

// leads says whether a proof leads from a key and a shard to a digest, by the chapter's words.
func leads(s int, key string, p api.Proof) bool {
	if !isRight(p) || !isKey(key) || placeOf(key).shard != s {
		return false
	}
	return !slices.ContainsFunc(p.End, func(end api.Stub) bool {
		at := placeOf(end.Key)
		return at.shard != s || at.way[:len(p.Side)] != placeOf(key).way[:len(p.Side)]
	})
}

// climb answers the texts that are digested from a proof's end up to the shard, whether it leads or not.
func climb(s int, key string, p api.Proof) [][]byte {
	out := [][]byte{endText(p.End)}
	way := placeOf(key).way + strings.Repeat("0", len(p.Side))
	for depth := len(p.Side) - 1; depth >= 0; depth-- {
		parts := []any{2, hash(out[len(out)-1]), p.Side[depth]}
		if way[depth] == '1' {
			parts[1], parts[2] = parts[2], parts[1]
		}
		out = append(out, text(parts...))
	}
	return append(out, text(4, s, hash(out[len(out)-1])))
}

// summit is the digest that they come to.
func summit(s int, key string, p api.Proof) []byte {
	texts := climb(s, key, p)
	return hash(texts[len(texts)-1])
}

// said is the digest that a proof's end has of a key.
func said(p api.Proof, key string) []byte {
	for _, s := range p.End {
		if s.Key == key {
			return s.Sum
		}
	}
	return nil
}

// keys are so many of a shard.
func keys(s, many int) []string {
	var out []string
	for n := 0; len(out) < many; n++ {
		if k := fmt.Sprintf("key %d", n); placeOf(k).shard == s {
			out = append(out, k)
		}
	}
	return out
}

// oddKeys are those of a shard among keys that are no text, that look alike, and that have 1, 63 and 64 bytes.
func oddKeys(s int) []string {
	all := []string{"\x00", "\x00\x00", " ", "\n", "a", "A", "a ", "a\x00", "\x00a", "\xc3\xa9", "e\xcc\x81", "\xe9", "\xff", "\xfe", "\x80", "\xff\xff", "\xef\xbf\xbd"}
	for n := range 12 {
		all = append(all, string(some(63-n%2)), string(append(some(62), byte(n), 'x')), string(some(64)), strings.Repeat(string([]byte{byte('A' + n)}), 64))
	}
	var out []string
	for _, k := range all {
		if placeOf(k).shard == s && !slices.Contains(out, k) {
			out = append(out, k)
		}
	}
	return out
}

// long is a text of 65 bytes that would be of the shard.
func long(s int) string {
	for n := 0; ; n++ {
		if k := fmt.Sprintf("%065d", n); placeOf(k).shard == s {
			return k
		}
	}
}

// pairs are two keys of shard 3 each, by how many signs their ways begin with alike.
func pairs() map[int][2]string {
	out := map[int][2]string{38: {"late 2960015", "late 508121"}, 37: {"late 2395241", "late 1803183"}}
	k := keys(3, 60)
	for i, a := range k {
		for _, b := range k[:i] {
			out[alike(a, b)] = [2]string{a, b}
		}
	}
	return out
}

// alike says how many signs two keys' ways begin with alike.
func alike(a, b string) int {
	n := 0
	for placeOf(a).way[n] == placeOf(b).way[n] {
		n++
	}
	return n
}

// under answers a key of a shard, other than the key, whose way begins with as many of its signs.
func under(s int, key string, signs int) string {
	for n := 0; ; n++ {
		other := fmt.Sprintf("under %d", n)
		if placeOf(other).shard == s && placeOf(other).way[:signs] == placeOf(key).way[:signs] {
			return other
		}
	}
}

// The model's places are those that package shard tells, its sets' digests and trees those of package merkle, and sets of unlike kinds are unlike.
func TestModel(t *testing.T) {
	seen := map[string]bool{}
	for many := range 20 {
		for kind := range 5 {
			set := setOf("k", many, kind)
			if !sibling.Right(set) || len(set) != many || !bytes.Equal(setSum(set), merkle.SetSum(set)) {
				t.Fatal(show(set))
			}
			seen[string(setSum(set))] = true
		}
	}
	if len(seen) != 19*5+1 {
		t.Error(len(seen))
	}
	for s := range 4 {
		k := append(keys(s, 20), oddKeys(s)...)
		for _, key := range append(k, long(s)) {
			if at := placeOf(key); at.shard != shard.Of(key) || at.way != shard.Bits(key) || at.shard != s {
				t.Fatalf("%q: %v", key, at)
			}
		}
		leaves := leavesOf(k, 0)
		if !bytes.Equal(topOf(s, stubsOf(leaves...)), treeOf(t, s, leaves...).Top()) {
			t.Error(s)
		}
		for _, key := range append(keys(s, 40), oddKeys(s)...) {
			p := proofOf(stubsOf(leaves...), key)
			if !leads(s, key, p) || !bytes.Equal(summit(s, key, p), topOf(s, stubsOf(leaves...))) {
				t.Fatalf("%q", key)
			}
		}
	}
	for same, two := range pairs() {
		if alike(two[0], two[1]) != same || placeOf(two[0]).shard != 3 || placeOf(two[1]).shard != 3 {
			t.Error(same, two)
		}
	}
	if len(pairs()) < 8 {
		t.Error("few pairs:", len(pairs()))
	}
}

// made is the proof of a key, which the package must tell.
func made(t *testing.T, tree *merkle.Tree, key string) api.Proof {
	t.Helper()
	p, err := proof.Make(tree, key)
	if err != api.OK {
		t.Fatalf("%q: %v", key, err)
	}
	return p
}
