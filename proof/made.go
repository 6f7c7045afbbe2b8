package proof

import (
	"buttress/api"
	"buttress/merkle"
	"buttress/shard"
)

// made answers the proof of a key of the tree's shard. It goes down no further than there are splits, and none is at a whole way.
func made(t *merkle.Tree, key string) api.Proof {
	var p api.Proof
	way := shard.Bits(key)
	n, _ := t.Node("")
	for n.Kind == api.NodeSplit {
		depth := len(p.Side)
		p.Side = append(p.Side, beside(n, way[depth]))
		n, _ = t.Node(way[:depth+1])
	}
	p.End = stubs(n.Leaves...)
	return p
}

// beside answers the digest of that half of a split to which the sign does not go.
func beside(n api.Node, sign byte) []byte {
	if sign == '0' {
		return n.Right
	}
	return n.Left
}

// stubs answers those of leaves.
func stubs(leaves ...api.Leaf) []api.Stub {
	var out []api.Stub
	for _, l := range leaves {
		out = append(out, api.Stub{Key: l.Key, Sum: merkle.SetSum(l.Set)})
	}
	return out
}
