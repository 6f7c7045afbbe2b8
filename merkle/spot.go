package merkle

import (
	"sort"

	"buttress/api"
)

// spot is a path's place in a tree. It embeds the row of the leaves under the path.
type spot struct {
	row
	depth int // how many signs the path has
}

// kind answers what node stands there.
func (s spot) kind() api.NodeKind {
	switch {
	case len(s.row) == 0:
		return api.NodeNone
	case len(s.row) == 1:
		return api.NodeLeaf
	case s.depth < signs:
		return api.NodeSplit
	}
	return api.NodeMany
}

// path answers that of a spot with leaves.
func (s spot) path() string {
	return s.row[0].way[:s.depth]
}

// halves answers what tells of each sign the spot at the path with it behind: of a spot that has leaves, and signs behind its path.
func (s spot) halves() func(sign byte) spot {
	ones := sort.Search(len(s.row), func(i int) bool { return s.row[i].way[s.depth] == '1' })
	return func(sign byte) spot {
		if sign == '1' {
			return spot{s.row[ones:], s.depth + 1}
		}
		return spot{s.row[:ones], s.depth + 1}
	}
}
