package sibling

import (
	"bytes"
	"slices"

	"buttress/api"
)

// union embeds the row of its records: one of each dot, rising.
type union struct {
	row
}

// unite answers the union of the sets, whose records must be right, and of one key.
func unite(sets ...[]api.Record) (u union) {
	all := row(slices.Concat(sets...))
	all.mustBeAlike()
	slices.SortFunc(all, byDot)
	for _, r := range all {
		u.take(r)
	}
	return u
}

// take takes a record on, whose dot is the last one's or goes behind it: of two of one dot that stays whose bytes are the least.
func (u *union) take(r api.Record) {
	last := len(u.row) - 1
	switch {
	case last < 0 || byDot(u.row[last], r) != 0:
		u.row = append(u.row, r)
	case bytes.Compare(own(r), own(u.row[last])) < 0:
		u.row[last] = r
	}
}

// uppermost answers the records that none other one is over, in memory of their own.
func (u union) uppermost() (out row) {
	under := u.under()
	for _, r := range u.row {
		if !under(r) {
			out = append(out, apart(r))
		}
	}
	return out
}

// apart answers the record in memory of its own.
func apart(r api.Record) api.Record {
	r.Context, r.Value, r.Sig = slices.Clone(r.Context), slices.Clone(r.Value), slices.Clone(r.Sig)
	return r
}
