package merkle_test

import (
	"bytes"
	"encoding/hex"
	"math"
	"slices"
	"strings"
	"testing"

	"buttress/api"
	"buttress/merkle"
	"buttress/sibling"
)

// simple and double are two sets of a key, of which another program told digests.
func simple(key string) []api.Record {
	return []api.Record{{Key: key, Client: 1, Seq: 1, Value: []byte("x"), Sig: bytes.Repeat([]byte("s"), 64)}}
}

func double(key string) []api.Record {
	gone := api.Record{Key: key, Client: 2, Seq: 258, Context: []api.Dot{{Client: 3, Seq: 1}}, Gone: true, Sig: bytes.Repeat([]byte("s"), 64)}
	return append(simple(key), gone)
}

// P12.1: digests that another program told.
func TestKnown(t *testing.T) {
	l, r := bytes.Repeat([]byte("l"), 64), bytes.Repeat([]byte("r"), 64)
	for i, c := range []struct {
		got  []byte
		want string
	}{
		{merkle.SetSum(nil), "99bc7292c9f94942da46535efcfa072d8c9cd48fd3ea069b78c6133cad1c9a3146fb0b9c4f40ba35fad104b6af9d1e2f69b80960743cc5a46f19e7a549ed83de"},
		{merkle.SetSum([]api.Record{}), "99bc7292c9f94942da46535efcfa072d8c9cd48fd3ea069b78c6133cad1c9a3146fb0b9c4f40ba35fad104b6af9d1e2f69b80960743cc5a46f19e7a549ed83de"},
		{merkle.SetSum(simple("a")), "201e3391eb142d2216b5543d81633a37126e143fcc1d4292ed186eeb77f74cca3d9f60639c55535a8765de772c23d5d214087ed583274f1db0096a3e1f353fe6"},
		{merkle.SetSum(double("a")), "2050e0c39cf09b39078920fd7270f12a350ef901666c56faf0f3e588cb981411b6f82d953e45ab0c2449c23191cd3dbd2056b109a11f8473d4f0a09d296aa72f"},
		{merkle.NodeSum(api.Node{Kind: api.NodeNone}), "b8244d028981d693af7b456af8efa4cad63d282e19ff14942c246e50d9351d22704a802a71c3580b6370de4ceb293c324a8423342557d4e5c38438f0e36910ee"},
		{merkle.NodeSum(api.Node{Kind: api.NodeLeaf, Leaves: []api.Leaf{{Key: "a", Set: simple("a")}}}), "eb9c82696e799b57fbe0ec8cc3c25a109aceb2858b4bda14944b1099c924f414b04c11134f506d0da54a5f7bb77e56a7c090562fcb4c30ecc2b72d6190689001"},
		{merkle.NodeSum(api.Node{Kind: api.NodeLeaf, Leaves: []api.Leaf{{Key: "a", Set: double("a")}}}), "65f164cc42f519996a1c6aae8c6f9c8c9a2bf45ec92d0efa23c1e7aedac24210d5b0393f4ed39ba799fc69215c05353d80c30f913d94081fbf98c0b944bb5104"},
		{merkle.NodeSum(api.Node{Kind: api.NodeSplit, Left: l, Right: r}), "32d612467dbc00650d590afbf36896821620b602035a77175434378be4ccba078fe679b5708bfdab42235effb9ec951f37bd56b6606d9c3bfb1eb75e6cf6809f"},
		{merkle.NodeSum(api.Node{Kind: api.NodeMany, Leaves: []api.Leaf{{Key: "a", Set: simple("a")}, {Key: "b", Set: double("b")}}}), "99de0d628b312210c808cd728d6659422b1d151b6b0728dc3a229b0a918dcef4be0f7e4c5989c52a39916cd9162eb6077593f0d7362ea8b7e384bd98eb9ebf6a"},
		{merkle.TopSum(0, bytes.Repeat([]byte("n"), 64)), "d14f20edc619747670b028a74f00d4bb4bd63381146a6e7f3983de8849bb301da242e254f607c2ae495292cde964b2e147a793e0207f04810f106ca84fc6bdd6"},
		{merkle.TopSum(3, bytes.Repeat([]byte("n"), 64)), "32329a053deb4ae37ccbe7ad83228f55fcb3851d57a99e51ef3955be4caa70414ce5b9f82765e54d29d4a4438120c8f66edfecdc25262cd2793d110c0fa3bbac"},
	} {
		if got := hex.EncodeToString(c.got); got != c.want {
			t.Errorf("%d: %s", i, got)
		}
	}
}

// P12.3, P12.4: the digests that another program told of four trees, of the keys among key 0 to key 39, every other one with two writes.
func TestKnownTrees(t *testing.T) {
	for s, want := range []string{
		"4a632da75e4bb98921561d46198d8dc816453c09fc6ab8ac800b813d44913746e03d52d8bd86091b39da999d192245ac84c641942fa04658b36c1816cf76902f",
		"3e111c8068571fbaaa5c1ea5d0b1f315ae351d8084299e90589abcf6e97c8abf8b3d76c06f42811e9c7ccc5ec6f2c4ef1b0a52ad0978757d5d705366e1ba2e3d",
		"7cc4d9829a0bdf89197ebfba15d930504112d3b0387b0a5a1382594a68fdf6bc243c281dca8004b381ef40155369a3912ffd177180e7031916f08745d9ab652f",
		"eb89c61ec8e4e937df5df02085a5d15234567052e36456bbe41e5df4d8e7e30b7b310657ce06520f73352e4b9f5a4684fc8a4390a3b2f81c5b09f3eb5f6f90f4",
	} {
		var leaves []api.Leaf
		for _, key := range keys(s, []int{18, 7, 6, 9}[s]) {
			l := api.Leaf{Key: key, Set: simple(key)}
			if strings.ContainsAny(key[len(key)-1:], "13579") {
				l.Set = double(key)
			}
			leaves = append(leaves, l)
		}
		if got := hex.EncodeToString(treeOf(t, s, leaves...).Top()); got != want {
			t.Errorf("%d: %s", s, got)
		}
	}
}

// rightSets are right sets, of none to many records.
func rightSets() map[string][]api.Record {
	full := with(write(string(some(64)), 8, 1<<30, 1, 1<<30, 2, 1, 3, 1, 4, 1, 5, 1, 6, 1, 7, 1, 8, 1<<30-1), func(r *api.Record) { r.Value = some(1024) })
	return map[string][]api.Record{
		"none":                {},
		"one":                 {write("k", 1, 1)},
		"one that is gone":    {with(write("k", 2, 1, 1, 1), func(r *api.Record) { r.Gone = true })},
		"one that is full":    {full},
		"two of a client":     {write("k", 1, 1), write("k", 1, 2)},
		"two of two clients":  {write("k", 1, 2), write("k", 2, 1)},
		"two of another key":  {write("l", 1, 2), write("l", 2, 1)},
		"of a key of no text": {write("\xff\x00", 1, 2)},
		"many":                leafOf("k", 16, 0).Set,
		"more than a shelf's": leafOf("k", 300, 0).Set,
	}
}

// wrongSets are rows that are no right sets, each by one thing.
func wrongSets() map[string][]api.Record {
	r := write("k", 2, 5, 1, 3)
	out := map[string][]api.Record{
		"falling":               {write("k", 2, 1), write("k", 1, 1)},
		"falling numbers":       {write("k", 1, 2), write("k", 1, 1)},
		"twice one dot":         {r, r},
		"twice one dot, unlike": {write("k", 1, 1), with(write("k", 1, 1), func(r *api.Record) { r.Value = some(1) })},
		"one over another one":  {write("k", 1, 3), r},
		"under another one":     {write("k", 1, 1, 2, 5), with(r, func(r *api.Record) { r.Context = nil })},
		"unlike keys":           {write("k", 1, 1), write("l", 2, 1)},
	}
	for name, turn := range map[string]func(r *api.Record){
		"nothing at all":    func(r *api.Record) { *r = api.Record{} },
		"no key":            func(r *api.Record) { r.Key = "" },
		"a key of 65":       func(r *api.Record) { r.Key = string(some(65)) },
		"client 0":          func(r *api.Record) { r.Client = 0 },
		"client 9":          func(r *api.Record) { r.Client = 9 },
		"write 0":           func(r *api.Record) { r.Seq = 0 },
		"a write too far":   func(r *api.Record) { r.Seq = 1<<30 + 1 },
		"its own dot":       func(r *api.Record) { r.Context = []api.Dot{{Client: 2, Seq: 5}} },
		"no vector":         func(r *api.Record) { r.Context = []api.Dot{{Client: 3, Seq: 1}, {Client: 1, Seq: 1}} },
		"seen a write 0":    func(r *api.Record) { r.Context = []api.Dot{{Client: 1, Seq: 0}} },
		"a value of 1025":   func(r *api.Record) { r.Value = some(1025) },
		"a value, but gone": func(r *api.Record) { r.Gone, r.Value = true, some(1) },
		"no signature":      func(r *api.Record) { r.Sig = nil },
		"63 of a signature": func(r *api.Record) { r.Sig = some(63) },
		"65 of a signature": func(r *api.Record) { r.Sig = some(65) },
	} {
		out[name] = []api.Record{with(r, turn)}
		out[name+", behind another one"] = []api.Record{write("k", 1, 9), with(r, turn)}
		out[name+", ahead of another one"] = []api.Record{with(r, turn), write("k", 7, 9)}
	}
	return out
}

// P12.1: the digest of right sets, and none of others.
func TestSetSum(t *testing.T) {
	seen := map[string]string{}
	for name, set := range rightSets() {
		got := merkle.SetSum(set)
		if !bytes.Equal(got, setSum(set)) {
			t.Errorf("%s: %x", name, got)
		}
		if of, is := seen[string(got)]; is {
			t.Error("one digest:", name, of)
		}
		seen[string(got)] = name
	}
	for name, set := range wrongSets() {
		if sibling.Right(set) {
			t.Fatal(name, "is right")
		}
		if got := merkle.SetSum(set); len(got) != 0 {
			t.Errorf("%s: %x", name, got)
		}
	}
}

// rightNodes are right nodes of each kind.
func rightNodes() map[string]api.Node {
	out := map[string]api.Node{
		"none":                    {Kind: api.NodeNone},
		"none, of empty lists":    {Kind: api.NodeNone, Left: []byte{}, Right: []byte{}, Leaves: []api.Leaf{}},
		"a leaf":                  {Kind: api.NodeLeaf, Leaves: []api.Leaf{leafOf("k", 1, 0)}},
		"a leaf of many":          {Kind: api.NodeLeaf, Leaves: []api.Leaf{leafOf("k", 40, 0)}},
		"a leaf, of empty lists":  {Kind: api.NodeLeaf, Left: []byte{}, Right: []byte{}, Leaves: []api.Leaf{leafOf("k", 2, 1)}},
		"a leaf of a short key":   {Kind: api.NodeLeaf, Leaves: []api.Leaf{leafOf("\x00", 2, 1)}},
		"a leaf of a long key":    {Kind: api.NodeLeaf, Leaves: []api.Leaf{leafOf(string(some(64)), 2, 1)}},
		"a split":                 {Kind: api.NodeSplit, Left: some(64), Right: slices.Repeat([]byte{1}, 64)},
		"a split of noughts":      {Kind: api.NodeSplit, Left: make([]byte, 64), Right: make([]byte, 64)},
		"a split, of empty lists": {Kind: api.NodeSplit, Left: some(64), Right: some(64), Leaves: []api.Leaf{}},
		"two leaves":              {Kind: api.NodeMany, Leaves: []api.Leaf{leafOf("a", 1, 0), leafOf("b", 2, 0)}},
		"two, one goes on":        {Kind: api.NodeMany, Leaves: []api.Leaf{leafOf("a", 1, 0), leafOf("a\x00", 2, 0)}},
		"two, of empty lists":     {Kind: api.NodeMany, Left: []byte{}, Right: []byte{}, Leaves: []api.Leaf{leafOf("\x7f", 1, 0), leafOf("\x80", 2, 0)}},
		"three":                   {Kind: api.NodeMany, Leaves: []api.Leaf{leafOf("Z", 1, 0), leafOf("a", 1, 0), leafOf("\xff", 1, 0)}},
		"many":                    {Kind: api.NodeMany},
	}
	many := out["many"]
	for n := range 300 {
		many.Leaves = append(many.Leaves, leafOf(string([]byte{byte(n >> 8), byte(n)}), 1, 0))
	}
	out["many"] = many
	return out
}

// wrongNodes are nodes that are not right, each by one thing.
func wrongNodes() map[string]api.Node {
	a, b, c := leafOf("a", 1, 0), leafOf("b", 1, 0), leafOf("c", 1, 0)
	l, r := some(64), make([]byte, 64)
	out := map[string]api.Node{
		"nothing":               {},
		"kind 0, a leaf":        {Leaves: []api.Leaf{a}},
		"kind 5":                {Kind: 5},
		"kind 5, of leaves":     {Kind: 5, Leaves: []api.Leaf{a, b}},
		"kind 255, a split":     {Kind: 255, Left: l, Right: r},
		"none with Left":        {Kind: api.NodeNone, Left: l},
		"none with Right":       {Kind: api.NodeNone, Right: r[:1]},
		"none with a leaf":      {Kind: api.NodeNone, Leaves: []api.Leaf{a}},
		"none with no leaf":     {Kind: api.NodeNone, Leaves: []api.Leaf{{}}},
		"no leaf":               {Kind: api.NodeLeaf},
		"a leaf with Left":      {Kind: api.NodeLeaf, Left: l, Leaves: []api.Leaf{a}},
		"a leaf with Right":     {Kind: api.NodeLeaf, Right: r, Leaves: []api.Leaf{a}},
		"a leaf with both":      {Kind: api.NodeLeaf, Left: l, Right: r, Leaves: []api.Leaf{a}},
		"a leaf, but two":       {Kind: api.NodeLeaf, Leaves: []api.Leaf{a, b}},
		"a split with a leaf":   {Kind: api.NodeSplit, Left: l, Right: r, Leaves: []api.Leaf{a}},
		"a split with leaves":   {Kind: api.NodeSplit, Left: l, Right: r, Leaves: []api.Leaf{a, b}},
		"a split, no Left":      {Kind: api.NodeSplit, Right: r},
		"a split, no Right":     {Kind: api.NodeSplit, Left: l},
		"a split, neither":      {Kind: api.NodeSplit},
		"a split, Left of 63":   {Kind: api.NodeSplit, Left: l[:63], Right: r},
		"a split, Right of 63":  {Kind: api.NodeSplit, Left: l, Right: r[:63]},
		"a split, Left of 65":   {Kind: api.NodeSplit, Left: some(65), Right: r},
		"a split, Right of 65":  {Kind: api.NodeSplit, Left: l, Right: some(65)},
		"a split, 63 and 65":    {Kind: api.NodeSplit, Left: some(63), Right: some(65)},
		"a split, 128 and none": {Kind: api.NodeSplit, Left: some(128)},
		"many of none":          {Kind: api.NodeMany},
		"many of one":           {Kind: api.NodeMany, Leaves: []api.Leaf{a}},
		"many with Left":        {Kind: api.NodeMany, Left: l, Leaves: []api.Leaf{a, b}},
		"many with Right":       {Kind: api.NodeMany, Right: r, Leaves: []api.Leaf{a, b}},
		"two that fall":         {Kind: api.NodeMany, Leaves: []api.Leaf{b, a}},
		"two of one key":        {Kind: api.NodeMany, Leaves: []api.Leaf{a, a}},
		"two sets of one key":   {Kind: api.NodeMany, Leaves: []api.Leaf{a, leafOf("a", 2, 1)}},
		"three, the first back": {Kind: api.NodeMany, Leaves: []api.Leaf{b, a, c}},
		"three, the last back":  {Kind: api.NodeMany, Leaves: []api.Leaf{a, c, b}},
		"three, the last twice": {Kind: api.NodeMany, Leaves: []api.Leaf{a, b, b}},
		"by lengths":            {Kind: api.NodeMany, Leaves: []api.Leaf{leafOf("z", 1, 0), leafOf("aa", 1, 0)}},
		"by signs, not bytes":   {Kind: api.NodeMany, Leaves: []api.Leaf{leafOf("\xff", 1, 0), leafOf("a", 1, 0)}},
	}
	for name, bad := range wrongLeaves() {
		out["a leaf: "+name] = api.Node{Kind: api.NodeLeaf, Leaves: []api.Leaf{bad}}
		before, behind := leafOf("\x00", 1, 0), leafOf("\xff\xff", 1, 0)
		out["the first: "+name] = api.Node{Kind: api.NodeMany, Leaves: []api.Leaf{bad, behind}}
		out["the second: "+name] = api.Node{Kind: api.NodeMany, Leaves: []api.Leaf{before, bad}}
		out["amid others: "+name] = api.Node{Kind: api.NodeMany, Leaves: []api.Leaf{before, bad, behind}}
	}
	return out
}

// wrongLeaves are leaves that may stand in no node, each by one thing.
func wrongLeaves() map[string]api.Leaf {
	long := strings.Repeat("k", 65)
	out := map[string]api.Leaf{
		"nothing":                {},
		"an empty set":           {Key: "k"},
		"an empty set, not nil":  {Key: "k", Set: []api.Record{}},
		"another key":            {Key: "k", Set: leafOf("l", 2, 0).Set},
		"another key, cut":       {Key: "k", Set: leafOf("kk", 1, 0).Set},
		"another key, longer":    {Key: "kk", Set: leafOf("k", 1, 0).Set},
		"another key, case":      {Key: "k", Set: leafOf("K", 1, 0).Set},
		"no key":                 {Set: leafOf("k", 1, 0).Set},
		"no key, nor its":        {Set: leafOf("", 1, 0).Set},
		"a key of 65":            {Key: long, Set: leafOf(long, 1, 0).Set},
		"a key of 65, not its":   {Key: long, Set: leafOf(long[:64], 1, 0).Set},
		"a key of 65, empty set": {Key: long},
	}
	for name, set := range wrongSets() {
		out["set: "+name] = api.Leaf{Key: "k", Set: set}
	}
	return out
}

// P12.1: the digest of right nodes of each kind, and none of others.
func TestNodeSum(t *testing.T) {
	for name, n := range rightNodes() {
		if got := merkle.NodeSum(n); !bytes.Equal(got, nodeSum(n)) {
			t.Errorf("%s: %x", name, got)
		}
	}
	for name, n := range wrongNodes() {
		if got := merkle.NodeSum(n); len(got) != 0 {
			t.Errorf("%s: %x", name, got)
		}
	}
}

// P12.1: each part of a node plays a part in its digest.
func TestNodeSumParts(t *testing.T) {
	l := slices.Repeat([]byte{1}, 64)
	seen := map[string]int{}
	for i, n := range []api.Node{
		{Kind: api.NodeNone},
		{Kind: api.NodeLeaf, Leaves: []api.Leaf{leafOf("a", 1, 0)}},
		{Kind: api.NodeLeaf, Leaves: []api.Leaf{leafOf("a", 1, 1)}},
		{Kind: api.NodeLeaf, Leaves: []api.Leaf{leafOf("b", 1, 0)}},
		{Kind: api.NodeSplit, Left: some(64), Right: l},
		{Kind: api.NodeSplit, Left: l, Right: some(64)},
		{Kind: api.NodeSplit, Left: l, Right: l},
		{Kind: api.NodeMany, Leaves: []api.Leaf{leafOf("a", 1, 0), leafOf("b", 1, 0)}},
		{Kind: api.NodeMany, Leaves: []api.Leaf{leafOf("a", 1, 0), leafOf("b", 1, 1)}},
		{Kind: api.NodeMany, Leaves: []api.Leaf{leafOf("a", 1, 1), leafOf("b", 1, 0)}},
		{Kind: api.NodeMany, Leaves: []api.Leaf{leafOf("a", 1, 0), leafOf("c", 1, 0)}},
		{Kind: api.NodeMany, Leaves: []api.Leaf{leafOf("a", 1, 0), leafOf("b", 1, 0), leafOf("c", 1, 0)}},
	} {
		sum := string(merkle.NodeSum(n))
		if at, is := seen[sum]; is || len(sum) != 64 {
			t.Errorf("%d, %d: %x", at, i, sum)
		}
		seen[sum] = i
	}
}

// P12.1: a shard's digest, and none of what is no shard, or no digest.
func TestTopSum(t *testing.T) {
	for _, s := range []int{math.MinInt, -256, -255, -4, -1, 0, 1, 2, 3, 4, 5, 255, 256, 257, 1 << 32, math.MaxInt} {
		for _, n := range []int{0, 1, 32, 63, 64, 65, 128, 1000} {
			got := merkle.TopSum(s, some(n))
			if 0 <= s && s <= 3 && n == 64 {
				if !bytes.Equal(got, hash(4, s, some(64))) {
					t.Errorf("%d: %x", s, got)
				}
			} else if len(got) != 0 {
				t.Errorf("%d, %d bytes: %x", s, n, got)
			}
		}
		if got := merkle.TopSum(s, nil); len(got) != 0 {
			t.Errorf("%d of none: %x", s, got)
		}
	}
}
