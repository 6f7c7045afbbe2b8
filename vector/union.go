package vector

import "slices"

// union embeds the vector of all that was joined to it, in memory of its own.
type union struct {
	row
}

// take joins a vector to it.
func (u *union) take(v row) {
	for _, d := range v {
		at := u.place(d.Client)
		if u.seen(d.Client) == 0 {
			u.row = slices.Insert(u.row, at, d)
			continue
		}
		u.row[at].Seq = max(u.row[at].Seq, d.Seq)
	}
}
