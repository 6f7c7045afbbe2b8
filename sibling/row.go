package sibling

import (
	"cmp"
	"slices"

	"buttress/api"
	"buttress/record"
	"buttress/vector"
	"buttress/wire"
)

// row is a row of records: a right set, where checked does not panic.
type row []api.Record

// checked answers the row, which must be a right set.
func (l row) checked() row {
	l.mustBeAlike()
	for i := range len(l) - 1 {
		must(byDot(l[i], l[i+1]) < 0)
	}
	must(!slices.ContainsFunc(l, l.under()))
	return l
}

// mustBeAlike panics, unless all records are right, and of one key.
func (l row) mustBeAlike() {
	for _, r := range l {
		must(record.Right(r) && r.Key == l[0].Key)
	}
}

// under answers what says of a record whether another one of the row is over it: of right records of one key.
func (l row) under() func(api.Record) bool {
	var contexts [][]api.Dot
	for _, r := range l {
		contexts = append(contexts, r.Context)
	}
	seen := vector.Join(contexts...) // just if one of them has a dot, this has it; a record's own context never has its own
	return func(r api.Record) bool { return vector.Has(seen, dot(r)) }
}

// bytes answers a right set's bytes.
func (l row) bytes() []byte {
	parts := [][]byte{wire.Number(len(l))}
	for _, r := range l {
		parts = append(parts, wire.Bytes(own(r)))
	}
	return wire.Join(parts...)
}

// read answers the records whose bytes these must be, all of them, as a set has them.
func read(b []byte) (l row) {
	in := wire.NewReader(b)
	for range in.Count(len(b)) { // each record has bytes: there are not more of them
		r, err := record.Get(in.Bytes(len(b)))
		must(err == api.OK)
		l = append(l, r)
	}
	must(in.Done())
	return l
}

// own answers a right record's bytes.
func own(r api.Record) []byte {
	b, _ := record.Put(r)
	return b
}

// dot answers what names the write.
func dot(r api.Record) api.Dot {
	return api.Dot{Client: r.Client, Seq: r.Seq}
}

// byDot holds two records' dots against each other: below 0, if a's is the first one of those that rise.
func byDot(a, b api.Record) int {
	return cmp.Or(cmp.Compare(a.Client, b.Client), cmp.Compare(a.Seq, b.Seq))
}
