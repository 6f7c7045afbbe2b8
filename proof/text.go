package proof

import (
	"slices"

	"buttress/wire"
)

// What texts that are digested begin with, as merkle's do.
const (
	ofNone byte = iota
	ofLeaf
	ofSplit
	ofMany
	ofShard
	ofSet
)

// text answers that of the parts, behind its mark.
func text(mark byte, parts ...[]byte) []byte {
	return wire.Join(slices.Concat([][]byte{{mark}}, parts)...)
}

// ends answers what the text of a node with so many leaves begins with, below which no split is.
func ends(leaves int) byte {
	switch leaves {
	case 0:
		return ofNone
	case 1:
		return ofLeaf
	}
	return ofMany
}
