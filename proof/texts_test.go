package proof_test

import (
	"bytes"
	"fmt"
	"slices"
	"testing"

	"buttress/api"
	"buttress/proof"
)

// mustTexts fails, unless Texts tells just the texts that the chapter's words do.
func mustTexts(t *testing.T, of string, w trip, set []api.Record, want ...[]byte) {
	t.Helper()
	got := proof.Texts(w.shard, w.key, w.p, set)
	if !slices.EqualFunc(got, want, bytes.Equal) {
		t.Fatalf("%q: %s: %d texts, not %d: %s, not %s", w.key, of, len(got), len(want), show(got), show(want))
	}
}

// P13.4: of a proof that leads, and a right set, all texts in their order; each set that is right, of whatever key, and whatever the proof says.
func TestTexts(t *testing.T) {
	all := straight()
	for n, of := range names(all) {
		w := all[of]
		texts := climb(w.shard, w.key, w.p)
		for i, set := range [][]api.Record{nil, {}, setOf(w.key, 1, 0), setOf(w.key, 4, 1), setOf("k", 2, 0), setOf(string(some(64)), 1, 3)} {
			if n%6 == i || len(w.p.Side) < 4 {
				mustTexts(t, fmt.Sprint(of, ", set ", i), w, set, slices.Concat([][]byte{setText(set)}, texts)...)
			}
		}
	}
	key := keys(1, 1)[0]
	great := setOf(key, 200, 0)
	mustTexts(t, "a great set", trip{1, key, api.Proof{}}, great, setText(great), text(0), text(4, 1, hash(0)))
}

// P13.4: texts, written out.
func TestTextsPlain(t *testing.T) {
	l, r, s := digest(1), digest(2), digest(3)
	one := []api.Record{{Key: "a", Client: 1, Seq: 2, Value: []byte("x"), Sig: some(64)}}
	own := text(1, "a", number(1), number(2), number(0), 0, "x", some(64))
	key := trip{1, "a", api.Proof{Side: [][]byte{l, r}, End: []api.Stub{{Key: "a", Sum: s}}}} // a's way begins with 11
	leaf := text(1, number(1), []byte("a"), s)
	mustTexts(t, "a leaf", key, one, text(5, number(1), number(len(own)), own), leaf, text(2, r, hash(leaf)), text(2, l, hash(text(2, r, hash(leaf)))), text(4, 1, hash(2, l, hash(text(2, r, hash(leaf))))))
	none := trip{3, "b", api.Proof{Side: [][]byte{l, r}}} // b's way begins with 10
	mustTexts(t, "none", none, nil, text(5, number(0)), []byte{0}, text(2, hash(0), r), text(2, l, hash(text(2, hash(0), r))), text(4, 3, hash(2, l, hash(text(2, hash(0), r)))))
	if placeOf("a").way[:2] != "11" || placeOf("a").shard != 1 || placeOf("b").way[:2] != "10" || placeOf("b").shard != 3 {
		t.Error("other ways")
	}
}

// P13.4: none of a proof that leads nowhere, whatever the set.
func TestTextsAstray(t *testing.T) {
	for of, w := range astray() {
		for _, set := range [][]api.Record{nil, setOf(w.key, 1, 0), setOf("k", 2, 0), {{}}} {
			mustTexts(t, of, w, set)
		}
	}
}

// P13.4: none of a set that is not right, however the proof leads.
func TestTextsWrong(t *testing.T) {
	all := straight()
	for n, of := range names(all) {
		if n%9 > 0 {
			continue
		}
		w := all[of]
		for name, set := range wrongSets(w.key) {
			mustTexts(t, of+", "+name, w, set)
		}
		for name, set := range wrongSets("k") {
			mustTexts(t, of+", of another key, "+name, w, set)
		}
	}
}

// chained says where texts don't hang together: each digest that a text is made of must be that of the one ahead of it, and the last text's that of the top.
func chained(w trip, top []byte, texts [][]byte) string {
	for i, text := range texts[2:] {
		sum := hash(texts[i+1])
		depth := len(w.p.Side) - i - 1
		switch {
		case depth < 0 && (len(texts) != i+3 || len(text) != 66 || text[0] != 4 || int(text[1]) != w.shard || !bytes.Equal(text[2:], sum)):
			return fmt.Sprint("text ", i+2, ", the shard's")
		case depth < 0:
		case len(text) != 129 || text[0] != 2:
			return fmt.Sprint("text ", i+2, ", a split's")
		case placeOf(w.key).way[depth] == '0' && (!bytes.Equal(text[1:65], sum) || !bytes.Equal(text[65:], w.p.Side[depth])):
			return fmt.Sprint("text ", i+2, ", to the left")
		case placeOf(w.key).way[depth] == '1' && (!bytes.Equal(text[65:], sum) || !bytes.Equal(text[1:65], w.p.Side[depth])):
			return fmt.Sprint("text ", i+2, ", to the right")
		}
	}
	if !bytes.Equal(hash(texts[len(texts)-1]), top) {
		return "the top"
	}
	return ""
}

// P13.4: of what Make tells each text has the digest of the one ahead of it, the first one that of the tree's set, and the last one is the tree's digest.
func TestTextsMade(t *testing.T) {
	for s := range 4 {
		for _, tree := range grown(t, s) {
			for _, key := range asked(s) {
				w := trip{s, key, made(t, tree, key)}
				set := tree.Get(key)
				texts := proof.Texts(s, key, w.p, set)
				if len(texts) != len(w.p.Side)+3 {
					t.Fatalf("%q: %d texts", key, len(texts))
				}
				if bad := chained(w, tree.Top(), texts); bad != "" {
					t.Fatalf("%q: %s", key, bad)
				}
				if sum := said(w.p, key); len(set) > 0 && (!bytes.Equal(hash(texts[0]), sum) || !bytes.HasSuffix(texts[1], sum) || texts[1][0] != 1) {
					t.Fatalf("%q: %x, %x", key, texts[0], texts[1])
				}
				if n, err := tree.Node(placeOf(key).way[:len(w.p.Side)]); err != api.OK || !bytes.Equal(hash(texts[1]), tree.Sum(placeOf(key).way[:len(w.p.Side)])) {
					t.Fatalf("%q: %s, %v", key, show(n), err)
				}
				mustTexts(t, "made", w, set, slices.Concat([][]byte{setText(set)}, climb(s, key, w.p))...)
			}
		}
	}
}
