package proof_test

import (
	"fmt"
	"slices"
	"testing"

	"buttress/api"
	"buttress/merkle"
	"buttress/proof"
)

// grown are a shard's trees of none, one, two, few and many leaves, each with a set that is no other one's.
func grown(t *testing.T, s int) []*merkle.Tree {
	var out []*merkle.Tree
	for _, many := range []int{0, 1, 2, 5, 40} {
		out = append(out, treeOf(t, s, leavesOf(keys(s, many), many)...))
	}
	if s == 3 {
		out = append(out, treeOf(t, s, leavesOf(slices.Concat(keys(s, 4), []string{pairs()[38][0], pairs()[38][1], pairs()[37][0]}), 9)...))
	}
	return out
}

// asked are keys of a shard of which some are in those trees, and some are not.
func asked(s int) []string {
	out := append(keys(s, 8), keys(s, 48)[38:]...)
	if s == 3 {
		out = append(out, pairs()[38][0], pairs()[38][1], pairs()[37][0], pairs()[37][1])
	}
	return out
}

// bent are a proof's turnings, each by one thing; some are no turnings, where what is exchanged is alike.
func bent(p api.Proof) map[string]api.Proof {
	out := map[string]api.Proof{}
	turn := func(of string, turn func(p *api.Proof)) {
		q := apart(p)
		turn(&q)
		out[of] = q
	}
	for at := range p.Side {
		for _, byte := range []int{0, 5, 31, 63} {
			turn(fmt.Sprint("bit of byte ", byte, " of Side ", at), func(q *api.Proof) { q.Side[at][byte] ^= 1 << (at % 8) })
		}
		turn(fmt.Sprint("Side cut at ", at), func(q *api.Proof) { q.Side = q.Side[:at] })
		turn(fmt.Sprint("Side begun at ", at+1), func(q *api.Proof) { q.Side = q.Side[at+1:] })
		turn(fmt.Sprint("Side without ", at), func(q *api.Proof) { q.Side = slices.Delete(q.Side, at, at+1) })
		turn(fmt.Sprint("Side twice with ", at), func(q *api.Proof) { q.Side = slices.Insert(q.Side, at, q.Side[at]) })
		turn(fmt.Sprint("Side exchanged at ", at), func(q *api.Proof) { q.Side[at], q.Side[0] = q.Side[0], q.Side[at] })
		turn(fmt.Sprint("Side of 63 at ", at), func(q *api.Proof) { q.Side[at] = q.Side[at][:63] })
		turn(fmt.Sprint("Side of 65 at ", at), func(q *api.Proof) { q.Side[at] = append(q.Side[at], 0) })
		turn(fmt.Sprint("Side none at ", at), func(q *api.Proof) { q.Side[at] = hash(0) })
	}
	turn("Side backward", func(q *api.Proof) { slices.Reverse(q.Side) })
	turn("no Side", func(q *api.Proof) { q.Side = nil })
	for _, more := range [][]byte{hash(0), digest(0), make([]byte, 64)} {
		turn(fmt.Sprintf("%x ahead", more[:4]), func(q *api.Proof) { q.Side = slices.Insert(q.Side, 0, more) })
		turn(fmt.Sprintf("%x behind", more[:4]), func(q *api.Proof) { q.Side = append(q.Side, more) })
	}
	turn("no End", func(q *api.Proof) { q.End = nil })
	for at, s := range p.End {
		for bit := range 512 {
			turn(fmt.Sprint("bit ", bit, " of Sum ", at), func(q *api.Proof) { q.End[at].Sum[bit/8] ^= 1 << (bit % 8) })
		}
		turn("a Sum of 63", func(q *api.Proof) { q.End[at].Sum = s.Sum[:63] })
		turn("a Sum of 65", func(q *api.Proof) { q.End[at].Sum = append(q.End[at].Sum, 0) })
		for _, key := range []string{"", "k", s.Key + " ", s.Key[1:], "\x00" + s.Key} {
			turn(fmt.Sprintf("the key %q", key), func(q *api.Proof) { q.End[at].Key = key })
		}
		turn("the stub twice", func(q *api.Proof) { q.End = append(q.End, q.End[at]) })
	}
	for s := range 4 {
		turn(fmt.Sprint("a stub more ahead, of shard ", s), func(q *api.Proof) { q.End = slices.Insert(q.End, 0, stub(keys(s, 1)[0])) })
		turn(fmt.Sprint("a stub more behind, of shard ", s), func(q *api.Proof) { q.End = append(q.End, stub(keys(s, 1)[0])) })
		turn(fmt.Sprint("another stub, of shard ", s), func(q *api.Proof) { q.End = stubs(keys(s, 2)[1]) })
	}
	turn("Side at the end", func(q *api.Proof) {
		for _, sum := range q.Side {
			q.End = append(q.End, api.Stub{Key: "k", Sum: sum})
		}
		q.Side = nil
	})
	return out
}

// P13.2, P13.5: what Make tells leads to the tree's digest, and says what stands there.
func TestCheckMade(t *testing.T) {
	for s := range 4 {
		for _, tree := range grown(t, s) {
			for _, key := range asked(s) {
				sum, err := proof.Check(s, tree.Top(), key, made(t, tree, key))
				var want []byte
				if set := tree.Get(key); len(set) > 0 {
					want = setSum(set)
				}
				if err != api.OK || string(sum) != string(want) {
					t.Fatalf("%q: %x, not %x, %v", key, sum, want, err)
				}
			}
		}
	}
}

// P13.2: another shard, and the digest of another tree, are not led to.
func TestCheckOthers(t *testing.T) {
	var trees []*merkle.Tree
	for s := range 4 {
		trees = append(trees, grown(t, s)...)
	}
	for _, tree := range trees {
		s := tree.Shard()
		for _, key := range asked(s)[:10] {
			p := made(t, tree, key)
			for shard := -2; shard < 8; shard++ {
				if sum, err := proof.Check(shard, tree.Top(), key, p); shard != s && (err != api.ErrProof || len(sum) != 0) {
					t.Fatalf("shard %d for %d: %q: %x, %v", shard, s, key, sum, err)
				}
			}
			for _, other := range trees {
				if sum, err := proof.Check(s, other.Top(), key, p); other != tree && (err != api.ErrProof || len(sum) != 0) {
					t.Fatalf("%q: %x, %v", key, sum, err)
				}
			}
			for _, no := range [][]byte{tree.Sum(""), hash(tree.Top()), tree.Sum(placeOf(key).way[:len(p.Side)])} {
				if sum, err := proof.Check(s, no, key, p); err != api.ErrProof || len(sum) != 0 {
					t.Fatalf("%q: %x, %v", key, sum, err)
				}
			}
		}
	}
}

// P13.2: asked for another key a proof leads just where its way is alike, and then says of that key alone.
func TestCheckOtherKey(t *testing.T) {
	leading, not := 0, 0
	for s := range 4 {
		for _, tree := range grown(t, s) {
			for _, key := range asked(s) {
				p := made(t, tree, key)
				for _, other := range append(asked(s), keys((s+1)%4, 1)[0], "", long(s), key+" ", key+"\x00") {
					w := trip{s, other, p}
					want := api.ErrProof
					if leads(s, other, p) && string(w.top()) == string(tree.Top()) {
						want = api.OK
						leading++
						if len(tree.Get(other)) > 0 && len(said(p, other)) == 0 {
							t.Fatalf("%q for %q: not there", other, key)
						}
					} else {
						not++
					}
					mustCheck(t, fmt.Sprintf("%q for %q", other, key), w, tree.Top(), want)
				}
			}
		}
	}
	if leading < 500 || not < 5000 {
		t.Error("few others:", leading, not)
	}
}

// P13.2: a proof that was turned anywhere does not lead to the tree's digest.
func TestCheckBent(t *testing.T) {
	for s := range 4 {
		for n, tree := range grown(t, s) {
			for i, key := range asked(s) {
				p := made(t, tree, key)
				if (i+n)%3 > 0 && len(p.Side) < 10 {
					continue
				}
				for of, q := range bent(p) {
					want := api.ErrProof
					if sameProof(p, q) {
						want = api.OK
					}
					mustCheck(t, fmt.Sprintf("%q: %s", key, of), trip{s, key, q}, tree.Top(), want)
				}
				mustCheck(t, fmt.Sprintf("%q", key), trip{s, key, p}, tree.Top(), api.OK)
			}
		}
	}
}
