package sibling_test

import (
	"encoding/binary"
	"fmt"
	"math/rand"
	"slices"
	"strconv"
	"testing"

	"buttress/api"
	"buttress/record"
)

// some is n bytes, the same for each n, without a period.
func some(n int) []byte {
	b := make([]byte, n)
	rand.New(rand.NewSource(int64(n) + 9)).Read(b)
	return b
}

// dots answers those whose clients and numbers stand one behind the other.
func dots(numbers ...int) []api.Dot {
	var out []api.Dot
	for k := 0; k+1 < len(numbers); k += 2 {
		out = append(out, api.Dot{Client: numbers[k], Seq: numbers[k+1]})
	}
	return out
}

// write is a right record of the key k, with a signature's bytes that nobody made; the context's numbers stand one behind the other.
func write(client, seq int, context ...int) api.Record {
	return api.Record{Key: "k", Client: client, Seq: seq, Context: dots(context...), Sig: some(64)}
}

// with answers the record, turned.
func with(r api.Record, turn func(r *api.Record)) api.Record {
	r = copied(r)
	turn(&r)
	return r
}

// value answers the record with that value.
func value(r api.Record, v string) api.Record {
	return with(r, func(r *api.Record) { r.Value = []byte(v) })
}

// copied is the same record in memory of its own.
func copied(r api.Record) api.Record {
	r.Context, r.Value, r.Sig = slices.Clone(r.Context), slices.Clone(r.Value), slices.Clone(r.Sig)
	return r
}

// copies are the same records in memory of their own.
func copies(set []api.Record) []api.Record {
	var out []api.Record
	for _, r := range set {
		out = append(out, copied(r))
	}
	return out
}

// same says whether two rows have the same records; lists without elements and nil ones are one.
func same(a, b []api.Record) bool {
	return slices.EqualFunc(a, b, func(a, b api.Record) bool {
		return a.Key == b.Key && a.Client == b.Client && a.Seq == b.Seq && a.Gone == b.Gone &&
			slices.Equal(a.Context, b.Context) && slices.Equal(a.Value, b.Value) && slices.Equal(a.Sig, b.Sig)
	})
}

// show tells of a thing as much as can be read.
func show(x any) string {
	s := fmt.Sprintf("%+v", x)
	return strconv.QuoteToASCII(s[:min(len(s), 600)])
}

// number puts a number's eight bytes behind b.
func number(b []byte, n int) []byte {
	return binary.BigEndian.AppendUint64(b, uint64(n))
}

// bytesOf are a record's bytes by the chapters' words, whatever it is.
func bytesOf(r api.Record) []byte {
	b := append(number([]byte{1}, len(r.Key)), r.Key...)
	b = number(number(number(b, r.Client), r.Seq), len(r.Context))
	for _, d := range r.Context {
		b = number(number(b, d.Client), d.Seq)
	}
	gone := byte(0)
	if r.Gone {
		gone = 1
	}
	b = append(number(append(b, gone), len(r.Value)), r.Value...)
	return append(b, r.Sig...)
}

// setBytes are a set's bytes by the chapter's words, whatever it is.
func setBytes(set []api.Record) []byte {
	b := number(nil, len(set))
	for _, r := range set {
		own := bytesOf(r)
		b = append(number(b, len(own)), own...)
	}
	return b
}

// alike says whether all records are right, and of one key.
func alike(all []api.Record) bool {
	for _, r := range all {
		if !record.Right(r) || r.Key != all[0].Key {
			return false
		}
	}
	return true
}

// before says whether a's dot is the first one of those that rise.
func before(a, b api.Record) bool {
	return a.Client < b.Client || a.Client == b.Client && a.Seq < b.Seq
}

// below says whether one of the records is over r.
func below(all []api.Record, r api.Record) bool {
	return slices.ContainsFunc(all, func(other api.Record) bool { return record.Over(other, r) })
}

// isSet says by the chapter's words whether a row is a right set.
func isSet(set []api.Record) bool {
	for i, r := range set {
		if i > 0 && !before(set[i-1], r) || below(set, r) {
			return false
		}
	}
	return alike(set)
}

// joined are by the chapter's words records that are alike, joined.
func joined(all []api.Record) []api.Record {
	least := map[api.Dot]api.Record{}
	for _, r := range all {
		d := api.Dot{Client: r.Client, Seq: r.Seq}
		if there, ok := least[d]; !ok || string(bytesOf(r)) < string(bytesOf(there)) {
			least[d] = r
		}
	}
	var each, out []api.Record
	for _, r := range least {
		each = append(each, r)
	}
	for _, r := range each {
		if !below(each, r) {
			out = append(out, r)
		}
	}
	slices.SortFunc(out, func(a, b api.Record) int {
		if before(a, b) {
			return -1
		}
		return 1
	})
	return out
}

// parsed answers by the chapter's words the right set whose bytes these are, and whether there is one.
func parsed(b []byte) ([]api.Record, bool) {
	bad := false
	next := func(n uint64) []byte {
		if bad = bad || n > uint64(len(b)); bad {
			return make([]byte, 8)
		}
		out := b[:n]
		b = b[n:]
		return out
	}
	var set []api.Record
	for left := binary.BigEndian.Uint64(next(8)); left > 0 && !bad; left-- {
		r, err := record.Get(next(binary.BigEndian.Uint64(next(8))))
		bad = bad || err != api.OK
		set = append(set, r)
	}
	if bad || len(b) > 0 || !isSet(set) {
		return nil, false
	}
	return set, true
}

// few are small right records of one key: of two clients, two dots each, with all contexts that may be, and some of them twice, with unlike values.
func few() []api.Record {
	var out []api.Record
	for client := 1; client <= 2; client++ {
		for seq := 1; seq <= 2; seq++ {
			for _, context := range [][]int{{}, {1, 1}, {1, 2}, {2, 1}, {2, 2}, {1, 1, 2, 1}, {1, 1, 2, 2}, {1, 2, 2, 1}} {
				if r := write(client, seq, context...); record.Right(r) {
					out = append(out, r)
				}
			}
		}
	}
	return append(out, value(write(1, 1), "a"), value(write(1, 1, 2, 1), "b"), value(write(2, 1), "c"))
}

// wrong are records that are not right, each by one thing.
func wrong() map[string]api.Record {
	r := write(2, 5, 1, 3)
	return map[string]api.Record{
		"nothing at all":       {},
		"no key":               with(r, func(r *api.Record) { r.Key = "" }),
		"a key of 65":          with(r, func(r *api.Record) { r.Key = string(some(65)) }),
		"client 0":             with(r, func(r *api.Record) { r.Client = 0 }),
		"client 9":             with(r, func(r *api.Record) { r.Client = 9 }),
		"write 0":              with(r, func(r *api.Record) { r.Seq = 0 }),
		"a write too far":      with(r, func(r *api.Record) { r.Seq = 1<<30 + 1 }),
		"its own dot":          with(r, func(r *api.Record) { r.Context = dots(2, 5) }),
		"over its own dot":     with(r, func(r *api.Record) { r.Context = dots(2, 6) }),
		"no vector":            with(r, func(r *api.Record) { r.Context = dots(3, 1, 1, 1) }),
		"seen a client twice":  with(r, func(r *api.Record) { r.Context = dots(1, 1, 1, 2) }),
		"seen client 9":        with(r, func(r *api.Record) { r.Context = dots(9, 1) }),
		"seen a write 0":       with(r, func(r *api.Record) { r.Context = dots(1, 0) }),
		"a value of 1025":      with(r, func(r *api.Record) { r.Value = some(1025) }),
		"gone, with a value":   with(r, func(r *api.Record) { r.Gone, r.Value = true, some(1) }),
		"no signature":         with(r, func(r *api.Record) { r.Sig = nil }),
		"a signature of 63":    with(r, func(r *api.Record) { r.Sig = some(63) }),
		"a signature of 65":    with(r, func(r *api.Record) { r.Sig = some(65) }),
		"a signature of a bit": with(r, func(r *api.Record) { r.Sig = some(1) }),
	}
}

// anyWrite is a right record of the key k that r chooses, of so many clients, and as many writes of each.
func anyWrite(r *rand.Rand, clients, seqs int) api.Record {
	x := write(1+r.Intn(clients), 1+r.Intn(seqs))
	for client := 1; client <= clients; client++ {
		if seq := 1 + r.Intn(seqs); r.Intn(3) == 0 && (client != x.Client || seq < x.Seq) {
			x.Context = append(x.Context, api.Dot{Client: client, Seq: seq})
		}
	}
	if x.Gone = r.Intn(4) == 0; !x.Gone {
		x.Value = some(r.Intn(4))
	}
	x.Sig[r.Intn(64)] = byte(r.Intn(3))
	return x
}

// anyWrites are as many as r chooses, up to so many.
func anyWrites(r *rand.Rand, most, clients, seqs int) []api.Record {
	var out []api.Record
	for range r.Intn(most + 1) {
		out = append(out, anyWrite(r, clients, seqs))
	}
	return out
}

// parts are the records, given in several sets as r chooses, some of which have none.
func parts(r *rand.Rand, all []api.Record) [][]api.Record {
	out := make([][]api.Record, 1+r.Intn(5))
	for _, x := range all {
		at := r.Intn(len(out))
		out[at] = append(out[at], x)
	}
	return out
}

// mixed are the records in an order that r chooses.
func mixed(r *rand.Rand, all []api.Record) []api.Record {
	out := slices.Clone(all)
	r.Shuffle(len(out), func(i, j int) { out[i], out[j] = out[j], out[i] })
	return out
}

// The model itself: what it joins is a set, and what it puts it parses.
func TestModel(t *testing.T) {
	rnd := rand.New(rand.NewSource(90))
	sets := 0
	for range 2000 {
		all := anyWrites(rnd, 6, 3, 3)
		for _, set := range [][]api.Record{all, joined(all)} {
			got, ok := parsed(setBytes(set))
			if ok != isSet(set) || ok && !same(got, set) {
				t.Fatalf("%s: %s, %v", show(set), show(got), ok)
			}
			if ok && len(set) > 1 {
				sets++
			}
		}
		if !isSet(joined(all)) {
			t.Fatal(show(joined(all)))
		}
	}
	if sets < 500 {
		t.Error("few sets of some:", sets)
	}
}
