package merkle

import (
	"slices"

	"buttress/api"
	"buttress/sha"
	"buttress/sibling"
	"buttress/wire"
)

// What texts that are digested begin with.
const (
	ofNone byte = iota
	ofLeaf
	ofSplit
	ofMany
	ofShard
	ofSet
)

// SetSum answers the digest of a right set.
func SetSum(set []api.Record) []byte {
	b, err := sibling.Put(set)
	if err != api.OK {
		return nil
	}
	return digest(ofSet, b)
}

// NodeSum answers the digest of a right node.
func NodeSum(n api.Node) []byte {
	if !shaped(n) {
		return nil
	}
	parts := [][]byte{n.Left, n.Right} // those of no split have nothing
	for _, l := range n.Leaves {
		sum := leafSum(l)
		if len(l.Set) == 0 || len(sum) == 0 {
			return nil
		}
		parts = append(parts, stub(l.Key, sum))
	}
	return digest(begins(n.Kind), parts...)
}

// TopSum answers a shard's digest, with that of its tree's node at the empty path.
func TopSum(shard int, node []byte) []byte {
	if !isShard(shard) || len(node) != api.Digest {
		return nil
	}
	return digest(ofShard, []byte{byte(shard)}, node)
}

// digest answers that of the text that begins with the mark.
func digest(mark byte, parts ...[]byte) []byte {
	return sha.Sum(slices.Concat([][]byte{{mark}}, parts)...)
}

// begins answers what the text of a node of that kind begins with.
func begins(kind api.NodeKind) byte {
	switch kind {
	case api.NodeLeaf:
		return ofLeaf
	case api.NodeSplit:
		return ofSplit
	case api.NodeMany:
		return ofMany
	}
	return ofNone
}

// stub answers what stands for a leaf in a node's text.
func stub(key string, sum []byte) []byte {
	return wire.Join(wire.Bytes([]byte(key)), sum)
}

// leafSum answers the digest of a leaf's set; none, unless that is right, and of the leaf's key.
func leafSum(l api.Leaf) []byte {
	if len(l.Set) > 0 && l.Set[0].Key != l.Key { // a right set is of one key
		return nil
	}
	return SetSum(l.Set)
}

// shaped says whether a node has what those of its kind have, and nothing else, whatever its leaves' sets are.
func shaped(n api.Node) bool {
	bare := len(n.Left) == 0 && len(n.Right) == 0
	switch n.Kind {
	case api.NodeNone:
		return bare && len(n.Leaves) == 0
	case api.NodeLeaf:
		return bare && len(n.Leaves) == 1
	case api.NodeSplit:
		return len(n.Left) == api.Digest && len(n.Right) == api.Digest && len(n.Leaves) == 0
	case api.NodeMany:
		return bare && len(n.Leaves) > 1 && rise(n.Leaves)
	}
	return false
}

// rise says whether each leaf's key is greater than the one ahead of it.
func rise(leaves []api.Leaf) bool {
	for i := range len(leaves) - 1 {
		if leaves[i].Key >= leaves[i+1].Key {
			return false
		}
	}
	return true
}
