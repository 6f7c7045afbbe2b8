package proof_test

import (
	"encoding/hex"
	"fmt"
	"slices"
	"strings"
	"testing"

	"buttress/api"
	"buttress/merkle"
	"buttress/proof"
)

// mustMake fails, unless Make tells the proof of a key that the chapter's words tell, in a tree with these leaves.
func mustMake(t *testing.T, tree *merkle.Tree, key string, leaves ...api.Leaf) api.Proof {
	t.Helper()
	p := made(t, tree, key)
	if want := proofOf(stubsOf(leaves...), key); !sameProof(p, want) || !proof.Right(p) {
		t.Fatalf("%q: %s, not %s", key, show(p), show(want))
	}
	return p
}

// The chapter's example.
func TestExample(t *testing.T) {
	for s := range 4 {
		tree := merkle.New(s)
		for _, key := range append(keys(s, 20), oddKeys(s)...) {
			p := made(t, tree, key)
			if len(p.Side) != 0 || len(p.End) != 0 {
				t.Fatalf("%q: %s", key, show(p))
			}
			if sum, err := proof.Check(s, tree.Top(), key, p); err != api.OK || len(sum) != 0 {
				t.Errorf("%q: %x, %v", key, sum, err)
			}
			for _, none := range [][]api.Record{nil, {}} {
				if err := proof.Holds(s, tree.Top(), key, p, none); err != api.OK {
					t.Errorf("%q: %v", key, err)
				}
			}
			for _, set := range [][]api.Record{setOf(key, 1, 0), setOf(key, 2, 0), setOf("k", 1, 0), {{}}} {
				if err := proof.Holds(s, tree.Top(), key, p, set); err != api.ErrProof {
					t.Errorf("%q: %s: %v", key, show(set), err)
				}
			}
		}
	}
}

// P13.1: what is no tree has no proofs, of whatever key.
func TestMakeNoTree(t *testing.T) {
	of := treeOf(t, 0, leavesOf(keys(0, 5), 0)...)
	taken, copied, fresh := *of, *of.Copy(), *merkle.New(0)
	var none *merkle.Tree
	for i, tree := range []*merkle.Tree{nil, none, {}, new(merkle.Tree), &taken, &copied, &fresh} {
		for _, key := range append(keys(0, 6), "", long(0), keys(1, 1)[0], keys(3, 1)[0]) {
			if p, err := proof.Make(tree, key); err != api.ErrNil || !sameProof(p, api.Proof{}) {
				t.Errorf("%d: %q: %s, %v", i, key, show(p), err)
			}
		}
	}
}

// P13.1: a text that is no key of the tree's shard has no proof, whatever is in the tree.
func TestMakeNoKey(t *testing.T) {
	for s := range 4 {
		texts := []string{"", long(s), long((s + 1) % 4), strings.Repeat("k", 66), strings.Repeat("k", 128), strings.Repeat("k", 1<<20)}
		for other := range 4 {
			if other != s {
				texts = append(append(texts, keys(other, 20)...), oddKeys(other)...)
			}
		}
		for _, many := range []int{0, 1, 2, 30} {
			tree := treeOf(t, s, leavesOf(keys(s, many), 0)...)
			for _, key := range texts {
				if p, err := proof.Make(tree, key); err != api.ErrShard || !sameProof(p, api.Proof{}) {
					t.Errorf("%d: %.80q: %s, %v", s, key, show(p), err)
				}
			}
		}
	}
}

// P13.1: of a tree with one leaf each key has that leaf's stub at its end, and nothing beside the way.
func TestMakeOne(t *testing.T) {
	for s := range 4 {
		for i, in := range append(keys(s, 3), oddKeys(s)...) {
			l := api.Leaf{Key: in, Set: setOf(in, i%5+1, 0)}
			tree := treeOf(t, s, l)
			for _, key := range append(keys(s, 9), oddKeys(s)...) {
				p := mustMake(t, tree, key, l)
				if len(p.Side) != 0 || len(p.End) != 1 || p.End[0].Key != in || string(p.End[0].Sum) != string(setSum(l.Set)) {
					t.Fatalf("%q: %q: %s", in, key, show(p))
				}
			}
		}
	}
}

// P13.1: of two leaves each stands one split below the signs that their ways begin with alike, as late as those of keys that were ever found part.
func TestMakeTwo(t *testing.T) {
	for same, two := range pairs() {
		a, b := api.Leaf{Key: two[0], Set: setOf(two[0], 1, 0)}, api.Leaf{Key: two[1], Set: setOf(two[1], 2, 0)}
		tree := treeOf(t, 3, a, b)
		for i, key := range two {
			p := mustMake(t, tree, key, a, b)
			if len(p.Side) != same+1 || len(p.End) != 1 || p.End[0].Key != key {
				t.Fatalf("%d alike: %q: %s", same, key, show(p))
			}
			for depth, sum := range p.Side {
				want := hash(0)
				if depth == same {
					other := []api.Leaf{b, a}[i]
					want = hash(1, other.Key, setSum(other.Set))
				}
				if string(sum) != string(want) {
					t.Fatalf("%d alike: %q: at %d %x", same, key, depth, sum)
				}
			}
		}
		for _, key := range keys(3, 30) { // not there, but for those that are
			p := mustMake(t, tree, key, a, b)
			if n := alike2(key, two); slices.Contains(two[:], key) != (len(p.End) == 1 && p.End[0].Key == key) || len(p.Side) != min(n, same)+1 {
				t.Fatalf("%d alike: %q, %d alike: %s", same, key, n, show(p))
			}
		}
	}
}

// alike2 says how many signs a key's way begins with as that one of two which it is more alike to; all, of one of them.
func alike2(key string, two [2]string) int {
	if key == two[0] || key == two[1] {
		return 510
	}
	return max(alike(key, two[0]), alike(key, two[1]))
}

// P13.1: of many leaves, for keys that are there and that are not; Side ends where there is no split any more.
func TestMakeMany(t *testing.T) {
	ends := map[int]int{}
	for s := range 4 {
		k := append(keys(s, 200), oddKeys(s)...)
		if s == 3 {
			k = append(k, pairs()[37][0], pairs()[38][0], pairs()[38][1])
		}
		var leaves []api.Leaf
		for i, l := range leavesOf(k, 0) {
			if i%2 == 0 || i > len(k)-4 {
				leaves = append(leaves, l)
			}
		}
		tree := treeOf(t, s, leaves...)
		for _, key := range k {
			p := mustMake(t, tree, key, leaves...)
			there := slices.ContainsFunc(leaves, func(l api.Leaf) bool { return l.Key == key })
			if there != (len(said(p, key)) > 0) {
				t.Fatalf("%q: %s", key, show(p))
			}
			switch {
			case there:
				ends[2]++
			default:
				ends[len(p.End)]++
			}
			if n, err := tree.Node(placeOf(key).way[:len(p.Side)]); err != api.OK || n.Kind == api.NodeSplit || len(n.Leaves) != len(p.End) {
				t.Fatalf("%q: %s, %v", key, show(n), err)
			}
		}
	}
	for end, name := range []string{"with none at the end", "with another one at the end", "that are there"} {
		if ends[end] < 50 {
			t.Error("few keys", name, ends[end])
		}
	}
}

// P13.1: proofs that another program told, of trees of the keys among key 0 to key 39, every other one with two writes: of a key that is there, and of one that is not.
func TestMakeKnown(t *testing.T) {
	for _, c := range []struct {
		shard   int
		key     string
		side    int
		end     []string
		digests string // of all of Side and End; of all texts from the node's on
		texts   string
	}{
		{0, "key 0", 5, []string{"key 0"}, "5248500dc2d9124a1608ce221305c9da7b3f1c9f098522d6be92a6d09cb756a580593920bf45ed039b5129e4fdc99ae448695222827c0ed418007a7f7557a231", "f34872cfaeaade1a0a4ce31a63459077f3ac328894502aa18443d7801a76e78bf9553617afc3dc95ed7e5957012ef1e977374e239e72e8c1effd899704165ee9"},
		{0, "key 42", 4, []string{"key 7"}, "fa76720bfd13ac551d90d1ea56977f2babf57a8716950110528fe0bd1661c8e6416fcad15bace3493e4d3aa537454f36281419ce9a1a1bcef0a8ef4628dc6172", "2c1ee20fd1fd15d11dd094174f49b55bbcdb73e692775a62eb846adeeccd56d29c3ed44f63c272b05d14dff4ae9bc6197be661dec13620179243e1a92d355059"},
		{1, "key 10", 5, []string{"key 10"}, "b3faaa5a166b66bb5040b0b813e27bc66b18b45da491805d75aaef4f63c7fbf856aef7d2c9b224d242476092cec4cc9948ecba2d70d89a72900ea0cc97af768d", "006728b055c58db98c8af9fd28bb0f20b222cf4b70166f080b2f8cf25a1436d70405aac12f6ffbd1391e5001f18be7553a4217cc73c591a0e6ec455462820386"},
		{1, "key 40", 3, nil, "a2c0155ddf5373c1a2ec5c45608da4e55ccbe06f7cc57c40888b97cc700781e75b57614dfdbd804a2a9064f2cb9d82a4b74f3b2c65340fc136d65951703664d2", "c964c114d867e3dd8b7a50415328811e40acf244ea58f67aeec68098f522b417e81b4c555d4d84ef3b24f61132cc9f13a7cbb764a737abc747424fe522f4471a"},
		{2, "key 15", 4, []string{"key 15"}, "abe52fa3e8fd0c12699296fee17f1a121d38e3248288b9ae5ff430075044182dd82b32b22855b9eb138e2b5b48ee6db5262fbbbd17fe5d6f26294736ababe5a3", "a94ace130b8f0a66f7ca1dcf8286e7a7ee55ef5c18d8d1fedc5cb485978eac3be87dae4a1643eae262f135116f146b416c33cd575f8408b1769a9771e51c5b28"},
		{2, "key 41", 2, []string{"key 20"}, "e9fb449a7cf5de029927f5b056741f89e0df7bf23ce5e0ce674882ad2a23f686b044bccd6f567940ce72502985ae9e9379698938aa4b5e660070b7090721f459", "8909bd60c2b15e0f2ae1c46cc31dd45fbf81179d0da20a51bc2da9a4bd133523b7000124bce40d324d4d54469a34cd4dd0990d4a33423a710f8cdf87f87601f3"},
		{3, "key 13", 4, []string{"key 13"}, "eb75d816d708316bd41060be09c134e289e9a033b79c0433d045cc105a07677dad5847db3779e363293361aded31c18674975062f36abae7d3b4487d0fc58280", "e0ed30654c461a9393729216e5bfefec0e66f1dbeb4de3e44e95c87f9f8c195979fe857b99ce4cc622cf84de9ccbe3cbd3bd9164ae69b9cc916f0a3600c9c1ab"},
		{3, "key 48", 3, []string{"key 28"}, "2b9bca7d136187847f196e57453be2326f267bafb5977a000e22c27f7e2e316f839fe3826ff282c46dae37a7f9d06cea9ee8ef1b24a4f66cf2f1738dc833d425", "f058ca752b5498878bd6059390bbe5603936aa4b0c59369de7365fa2b09829bb87d78a0d3381d1a67ca11f773089669df7043c71f048d7e3507a1d219a9cf92f"},
	} {
		tree := knownTree(t, c.shard)
		p := made(t, tree, c.key)
		var all []any
		for _, sum := range p.Side {
			all = append(all, sum)
		}
		var end []string
		for _, s := range p.End {
			end = append(end, s.Key)
			all = append(all, s.Key, s.Sum)
		}
		if got := hex.EncodeToString(hash(all...)); got != c.digests || len(p.Side) != c.side || !slices.Equal(end, c.end) {
			t.Errorf("%q: %s: %s", c.key, got, show(p))
		}
		texts := proof.Texts(c.shard, c.key, p, nil)
		if got := hex.EncodeToString(hash(slices.Concat(texts[1:]...))); got != c.texts {
			t.Errorf("%q: texts %s", c.key, got)
		}
	}
}

// knownTree is that of the keys of a shard among key 0 to key 39, every other one with two writes.
func knownTree(t *testing.T, s int) *merkle.Tree {
	t.Helper()
	tree := merkle.New(s)
	for n := range 40 {
		key := fmt.Sprint("key ", n)
		if placeOf(key).shard != s {
			continue
		}
		set := []api.Record{{Key: key, Client: 1, Seq: 1, Value: []byte("x"), Sig: []byte(strings.Repeat("s", 64))}}
		if n%2 == 1 {
			set = append(set, api.Record{Key: key, Client: 2, Seq: 258, Context: []api.Dot{{Client: 3, Seq: 1}}, Gone: true, Sig: []byte(strings.Repeat("s", 64))})
		}
		if err := tree.Put(api.Leaf{Key: key, Set: set}); err != api.OK {
			t.Fatal(key, err)
		}
	}
	return tree
}
