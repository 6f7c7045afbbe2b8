package record

import (
	"buttress/api"
	"buttress/vector"
	"buttress/wire"
)

// What single bytes of a text say.
const (
	ofRecord = 1 // a text begins with it
	stays    = 0
	isGone   = 1
)

// work is a record at work, which it embeds.
type work struct {
	api.Record
}

// dot answers what names the write.
func (w work) dot() api.Dot {
	return api.Dot{Client: w.Client, Seq: w.Seq}
}

// shaped says whether the record has a right shape.
func (w work) shaped() bool {
	most := api.MaxValue
	if w.Gone {
		most = 0
	}
	return 1 <= len(w.Key) && len(w.Key) <= api.MaxKey && w.placed() && len(w.Value) <= most
}

// placed says whether the dot is right, and the context is a vector that has not seen it.
func (w work) placed() bool {
	alone := []api.Dot{w.dot()} // a vector, just if the dot is right
	return vector.Right(alone) && vector.Right(w.Context) && !vector.Covers(w.Context, alone)
}

// text answers what is signed.
func (w work) text() []byte {
	gone := byte(stays)
	if w.Gone {
		gone = isGone
	}
	return wire.Join(
		[]byte{ofRecord},
		wire.Bytes([]byte(w.Key)),
		dots(w.dot()),
		wire.Number(len(w.Context)),
		dots(w.Context...),
		[]byte{gone},
		wire.Bytes(w.Value),
	)
}

// dots answers the dots' numbers as bytes, one dot behind the other.
func dots(row ...api.Dot) []byte {
	var parts [][]byte
	for _, d := range row {
		parts = append(parts, wire.Number(d.Client), wire.Number(d.Seq))
	}
	return wire.Join(parts...)
}
