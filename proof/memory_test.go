package proof_test

import (
	"bytes"
	"slices"
	"testing"

	"buttress/api"
	"buttress/proof"
)

// room puts something behind a list, where it has room.
func room(b []byte) []byte {
	return append(slices.Clone(b), "room"...)[:len(b)]
}

// given is what calls are given: a proof that leads and that its set holds by, with room behind each of its lists, which holds something.
type given struct {
	trip
	top []byte
	set []api.Record
}

// roomy is one of 4 digests, with the stub of the key.
func roomy() given {
	key := keys(1, 1)[0]
	g := given{set: setOf(key, 5, 0)[:4]}
	for i := range g.set[:5] {
		r := &g.set[:5][i]
		r.Context = append(slices.Clone(r.Context), api.Dot{Client: 9, Seq: 9})[:len(r.Context)]
		r.Value, r.Sig = room(r.Value), room(r.Sig)
	}
	p := api.Proof{Side: digests(6)[:4], End: stubs(key, "room")[:1]}
	p.End[0].Sum = setSum(g.set)
	g.trip = trip{1, key, p}
	g.top = room(g.trip.top())
	for i := range p.Side[:6] {
		p.Side[:6][i] = room(p.Side[:6][i])
	}
	for i := range p.End[:2] {
		p.End[:2][i].Sum = room(p.End[:2][i].Sum)
	}
	return g
}

// all is all that was given, with what stands behind it, as one row of bytes.
func (g given) all() []byte {
	b := bytes.Clone(g.top[:cap(g.top)])
	for _, sum := range g.p.Side[:6] {
		b = append(b, sum[:cap(sum)]...)
	}
	for _, s := range g.p.End[:2] {
		b = append(append(b, s.Key...), s.Sum[:cap(s.Sum)]...)
	}
	for _, r := range g.set[:5] {
		for _, d := range r.Context[:cap(r.Context)] {
			b = append(b, byte(d.Client), byte(d.Seq))
		}
		b = append(b, text(r.Key, r.Client, r.Seq, r.Value[:cap(r.Value)], r.Sig[:cap(r.Sig)])...)
	}
	return b
}

// wipe clears all that was given, with the room behind it.
func (g given) wipe() {
	clear(g.top[:cap(g.top)])
	wipeProof(api.Proof{Side: g.p.Side[:6], End: g.p.End[:2]})
	for _, r := range g.set[:5] {
		clear(r.Context[:cap(r.Context)])
		clear(r.Value[:cap(r.Value)])
		clear(r.Sig[:cap(r.Sig)])
	}
	clear(g.set[:5])
}

// wipeProof clears all that a proof has, with the room behind it.
func wipeProof(p api.Proof) {
	for _, sum := range p.Side {
		clear(sum[:cap(sum)])
	}
	for _, s := range p.End {
		clear(s.Sum[:cap(s.Sum)])
	}
	clear(p.Side[:cap(p.Side)])
	clear(p.End[:cap(p.End)])
}

// R3: what was given stays as it was, with what stands behind it, whatever is asked.
func TestGiven(t *testing.T) {
	g := roomy()
	wants := g.all()
	for range 2 {
		proof.Right(g.p)
		proof.Check(1, g.top, g.key, g.p)
		proof.Check(2, g.top, g.key, g.p)
		proof.Check(1, g.top[:63], g.key, g.p)
		proof.Check(1, g.top, "other", g.p)
		proof.Holds(1, g.top, g.key, g.p, g.set)
		proof.Holds(1, g.top, g.key, g.p, g.set[:2])
		proof.Texts(1, g.key, g.p, g.set)
		proof.Texts(1, g.key, g.p, g.set[1:])
		proof.Texts(1, "other", g.p, g.set)
	}
	if !bytes.Equal(g.all(), wants) {
		t.Error("what was given was changed")
	}
	if err := proof.Holds(1, g.top, g.key, g.p, g.set); err != api.OK || len(proof.Texts(1, g.key, g.p, g.set)) != 7 {
		t.Error("it does not hold:", err)
	}
}

// R3: what is told lies apart from what was given: of both one may change without the other.
func TestToldApart(t *testing.T) {
	g := roomy()
	wants := roomy().all()
	sum, err := proof.Check(1, g.top, g.key, g.p)
	if err != api.OK || len(sum) != 64 {
		t.Fatal(err)
	}
	clear(sum[:cap(sum)])
	texts := proof.Texts(1, g.key, g.p, g.set)
	for i := range texts {
		clear(texts[i][:cap(texts[i])])
	}
	clear(texts[:cap(texts)])
	if !bytes.Equal(g.all(), wants) {
		t.Error("what is told is what was given")
	}
	sum, _ = proof.Check(1, g.top, g.key, g.p)
	texts = proof.Texts(1, g.key, g.p, g.set)
	g.wipe()
	g = roomy()
	if !bytes.Equal(sum, g.p.End[0].Sum) || !slices.EqualFunc(texts, append([][]byte{setText(g.set)}, climb(1, g.key, g.p)...), bytes.Equal) {
		t.Error("what was given is kept")
	}
}

// R3: what Make told may be written over, and so may what the tree tells: the tree, and what is told later, stay.
func TestMadeApart(t *testing.T) {
	k := keys(3, 20)
	k = append(k, pairs()[38][0], pairs()[38][1])
	leaves := leavesOf(k[1:], 0)
	tree := treeOf(t, 3, leaves...)
	top := tree.Top()
	for _, key := range k {
		want := proofOf(stubsOf(leaves...), key)
		for range 3 {
			p := made(t, tree, key)
			if !sameProof(p, want) {
				t.Fatalf("%q: %s", key, show(p))
			}
			wipeProof(p)
			l := tree.Leaves()
			n, _ := tree.Node(placeOf(key).way[:3])
			clear(n.Left)
			clear(n.Right)
			for i := range l {
				clear(l[i].Set)
			}
		}
	}
	if !bytes.Equal(tree.Top(), top) {
		t.Error("the tree was changed")
	}
	p := made(t, tree, k[3])
	was := apart(p)
	tree.Put(leavesOf(k, 5)...)
	if !sameProof(p, was) || proof.Holds(3, top, k[3], p, leaves[2].Set) != api.OK {
		t.Error("what was told changed with the tree")
	}
}

// mustPart fails, unless each of the lists may be cleared, with the room behind it, without a change to another one.
func mustPart(t *testing.T, of string, lists func() [][]byte) {
	t.Helper()
	for i := range lists() {
		all := lists()
		was := make([][]byte, len(all))
		for j := range all {
			was[j] = bytes.Clone(all[j])
		}
		clear(all[i][:cap(all[i])])
		for j := range all {
			if j != i && !bytes.Equal(all[j], was[j]) {
				t.Fatalf("%s: %d was %d's", of, j, i)
			}
		}
	}
}

// R3: no two lists of one answer share memory, though those that were given do.
func TestListsApart(t *testing.T) {
	tree := treeOf(t, 3, leavesOf([]string{pairs()[38][0], pairs()[38][1]}, 0)...) // most of Side are alike
	mustPart(t, "Make", func() [][]byte {
		p := made(t, tree, pairs()[38][0])
		return append(slices.Clone(p.Side), p.End[0].Sum)
	})
	g := roomy()
	for i := range g.p.Side {
		g.p.Side[i] = g.p.Side[0]
	}
	g.p.End[0].Sum = g.p.Side[0]
	for i := range g.set {
		g.set[i].Sig = g.p.Side[0]
	}
	mustPart(t, "Texts", func() [][]byte { return proof.Texts(1, g.key, g.p, g.set) })
	mustPart(t, "Texts of none", func() [][]byte { return proof.Texts(1, g.key, api.Proof{}, nil) })
	if len(proof.Texts(1, g.key, g.p, g.set)) != 7 {
		t.Error("no texts")
	}
}

// R4: what is asked twice is told alike.
func TestToldTwice(t *testing.T) {
	g := roomy()
	for range 3 {
		sum, err := proof.Check(1, g.top, g.key, g.p)
		texts := proof.Texts(1, g.key, g.p, g.set)
		if err != api.OK || !bytes.Equal(sum, setSum(g.set)) || !slices.EqualFunc(texts, append([][]byte{setText(g.set)}, climb(1, g.key, g.p)...), bytes.Equal) {
			t.Fatal(err, show(texts))
		}
		clear(sum)
		for i := range texts {
			clear(texts[i])
		}
	}
}

// R6: lists without elements and nil ones are one.
func TestEmpty(t *testing.T) {
	key := keys(2, 1)[0]
	for _, p := range []api.Proof{{}, {Side: [][]byte{}}, {End: []api.Stub{}}, {Side: [][]byte{}, End: []api.Stub{}}} {
		w := trip{2, key, p}
		for _, set := range [][]api.Record{nil, {}} {
			mustHold(t, "empty", w, w.top(), set, api.OK)
			mustTexts(t, "empty", w, set, text(5, number(0)), text(0), text(4, 2, hash(0)))
		}
		if sum, err := proof.Check(2, w.top(), key, p); !proof.Right(p) || err != api.OK || len(sum) != 0 {
			t.Error(sum, err)
		}
	}
}
