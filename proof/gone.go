package proof

import (
	"iter"
	"slices"
	"strings"

	"buttress/api"
	"buttress/sha"
	"buttress/shard"
	"buttress/wire"
)

// gone is a way that is gone, from a shard's digest to the node where its proof ends. It embeds the proof.
type gone struct {
	api.Proof
	shard int
	path  string // as much of the way as was gone: a sign for each of Side
}

// lead answers the way that a proof leads, and whether it leads.
func lead(n int, key string, p api.Proof) (gone, bool) {
	if !Right(p) || !isOf(n, key) {
		return gone{}, false
	}
	g := gone{p, n, shard.Bits(key)[:len(p.Side)]}
	return g, !slices.ContainsFunc(g.End, g.misses)
}

// misses says whether a stub's key is not under the path, or of another shard.
func (g gone) misses(s api.Stub) bool {
	return !isOf(g.shard, s.Key) || !strings.HasPrefix(shard.Bits(s.Key), g.path)
}

// says answers the digest that the way's end has of a key.
func (g gone) says(key string) []byte {
	at := slices.IndexFunc(g.End, func(s api.Stub) bool { return s.Key == key })
	if at < 0 {
		return nil
	}
	return slices.Clone(g.End[at].Sum)
}

// top answers the digest that the way begins at.
func (g gone) top() []byte {
	var last []byte
	for text := range g.texts() {
		last = text
	}
	return sha.Sum(last)
}

// texts yields what is digested on the way, from its end up: each text but the first one has the digest of the one ahead of it.
func (g gone) texts() iter.Seq[[]byte] {
	return func(yield func(text []byte) bool) {
		last := g.end()
		for depth := len(g.Side) - 1; depth >= 0; depth-- {
			if !yield(last) {
				return
			}
			last = g.split(depth, sha.Sum(last))
		}
		if yield(last) {
			yield(text(ofShard, []byte{byte(g.shard)}, sha.Sum(last)))
		}
	}
}

// end answers the text of the node at the way's end.
func (g gone) end() []byte {
	var parts [][]byte
	for _, s := range g.End {
		parts = append(parts, wire.Bytes([]byte(s.Key)), s.Sum)
	}
	return text(ends(len(g.End)), parts...)
}

// split answers the text of the split at that depth of the way: of the half that was gone to this is the digest.
func (g gone) split(depth int, sum []byte) []byte {
	if g.path[depth] == '0' {
		return text(ofSplit, sum, g.Side[depth])
	}
	return text(ofSplit, g.Side[depth], sum)
}
