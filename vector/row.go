package vector

import (
	"sort"

	"buttress/api"
)

// row is a row of dots: a vector, where right says so. The calls behind right are of vectors alone.
type row []api.Dot

// right says whether all dots are right, and their clients rise.
func (v row) right() bool {
	last := 0
	for _, d := range v {
		if d.Client <= last || d.Client > api.MaxClients || d.Seq < 1 || d.Seq > api.MaxSeq {
			return false
		}
		last = d.Client
	}
	return true
}

// place answers where the client stands, or would have to stand.
func (v row) place(client int) int {
	return sort.Search(len(v), func(i int) bool { return v[i].Client >= client })
}

// seen answers how many of the client's writes the vector has.
func (v row) seen(client int) int {
	at := v.place(client)
	if at == len(v) || v[at].Client != client {
		return 0
	}
	return v[at].Seq
}

// covers says whether the vector has each dot of another one.
func (v row) covers(other row) bool {
	for _, d := range other {
		if v.seen(d.Client) < d.Seq {
			return false
		}
	}
	return true
}
