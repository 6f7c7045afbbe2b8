package merkle

import (
	"cmp"
	"slices"
	"sort"
	"strings"

	"buttress/api"
)

// leaf is a key, and its writes; it embeds what is told of it. None is changed once it was made: trees that were copied share them.
type leaf struct {
	api.Leaf
	way string // the key's
	sum []byte // the set's digest
}

// row is leaves by rising ways, those of one way by rising keys: so all under a path stand side by side.
type row []*leaf

// place answers where a key stands, or would have to stand, and whether it is there.
func (l row) place(way, key string) (int, bool) {
	return slices.BinarySearchFunc(l, way, func(x *leaf, way string) int {
		return cmp.Or(cmp.Compare(x.way, way), cmp.Compare(x.Key, key))
	})
}

// set lets a leaf stand in place of what is there of its key, or takes that out, if the leaf has no writes.
func (l *row) set(x *leaf) {
	at, there := l.place(x.way, x.Key)
	switch {
	case len(x.Set) > 0 && there:
		(*l)[at] = x
	case len(x.Set) > 0:
		*l = slices.Insert(*l, at, x)
	case there:
		*l = slices.Delete(*l, at, at+1)
	}
}

// at answers the spot at a path.
func (l row) at(path string) spot {
	from := sort.Search(len(l), func(i int) bool { return l[i].way >= path })
	rest := l[from:]
	many := sort.Search(len(rest), func(i int) bool { return !strings.HasPrefix(rest[i].way, path) })
	return spot{rest[:many], len(path)}
}

// told answers the leaves in memory of their own.
func (l row) told() []api.Leaf {
	var out []api.Leaf
	for _, x := range l {
		out = append(out, apart(x.Leaf))
	}
	return out
}

// stubs answers what stands for the leaves in a node's text.
func (l row) stubs() [][]byte {
	var out [][]byte
	for _, x := range l {
		out = append(out, stub(x.Key, x.sum))
	}
	return out
}

// apart answers a leaf, whose writes are all of its key, in memory of its own.
func apart(l api.Leaf) api.Leaf {
	out := api.Leaf{Key: strings.Clone(l.Key), Set: slices.Clone(l.Set)}
	for i := range out.Set {
		r := &out.Set[i]
		r.Key = out.Key
		r.Context, r.Value, r.Sig = slices.Clone(r.Context), slices.Clone(r.Value), slices.Clone(r.Sig)
	}
	return out
}
