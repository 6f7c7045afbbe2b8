package merkle

import (
	"slices"

	"buttress/api"
	"buttress/shard"
)

// take answers a leaf that may stand in the tree, in memory of its own.
func (t *Tree) take(given api.Leaf) (*leaf, api.Errno) {
	if !isKey(given.Key) || shard.Of(given.Key) != t.shard {
		return nil, api.ErrShard
	}
	sum := leafSum(given)
	if len(sum) == 0 {
		return nil, api.ErrShape
	}
	return &leaf{Leaf: apart(given), way: shard.Bits(given.Key), sum: sum}, api.OK
}

// change sets the leaves, one by one. The digests that hang on them are reckoned anew here, once for all of them, so that who asks later changes nothing: many may ask at one time.
func (t *Tree) change(news ...*leaf) {
	for _, x := range news {
		t.forget(x)
		t.set(x)
	}
	t.sum(t.at(""))
}

// forget drops the digests that hang on a leaf: those of all splits on its way.
func (t *Tree) forget(x *leaf) {
	for depth := range signs {
		delete(t.sums, x.way[:depth])
	}
}

// sum answers the digest of the node at a spot; it keeps those of splits.
func (t *Tree) sum(s spot) []byte {
	kind := s.kind()
	if kind != api.NodeSplit {
		return digest(begins(kind), s.stubs()...)
	}
	kept, is := t.sums[s.path()]
	if !is {
		half := s.halves()
		kept = digest(ofSplit, t.sum(half('0')), t.sum(half('1')))
		t.sums[s.path()] = kept
	}
	return kept
}

// node answers the node at a spot.
func (t *Tree) node(s spot) api.Node {
	n := api.Node{Kind: s.kind()}
	if n.Kind != api.NodeSplit {
		n.Leaves = s.told()
		return n
	}
	half := s.halves()
	n.Left, n.Right = slices.Clone(t.sum(half('0'))), slices.Clone(t.sum(half('1')))
	return n
}
