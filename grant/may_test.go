package grant_test

import (
	"math"
	"slices"
	"strconv"
	"strings"
	"testing"

	"buttress/api"
	"buttress/edwards"
	"buttress/record"
	"buttress/sign"
)

// is fails, unless May tells that error, and the chapter's words ask for it.
func is(t *testing.T, want api.Errno, of string, l []api.Grant, records ...api.Record) {
	t.Helper()
	if err := may(t, of, l, records...); err != want {
		t.Errorf("%s: %s, %s: %d, not %d", of, show(l), show(records), int(err), int(want))
	}
}

// The chapter's examples.
func TestExamples(t *testing.T) {
	l := []api.Grant{to(1, "a/")}
	is(t, api.OK, "a/x", l, write(1, "a/x"))
	is(t, api.ErrGrant, "b", l, write(1, "b"))
	is(t, api.ErrGrant, "another client", l, write(2, "a/x"))
	is(t, api.ErrSig, "another Sig", l, bent(write(1, "a/x")))
}

// P10.2: of no record at all right grants tell OK, and others ErrArg; no grants let no record through.
func TestNoRecord(t *testing.T) {
	is(t, api.OK, "no grants", nil)
	is(t, api.OK, "empty grants", []api.Grant{}, []api.Record{}...)
	is(t, api.OK, "three grants", three())
	is(t, api.ErrArg, "wrong grants", []api.Grant{{}})
	for client := 1; client <= 8; client++ {
		is(t, api.ErrGrant, "no grants", nil, write(client, "a/b"))
	}
	is(t, api.ErrShape, "no grants, no record's shape", nil, api.Record{})
}

// P10.2: a key may be written that is the grant's prefix, or begins with it; not a shorter one, nor another one.
func TestKeys(t *testing.T) {
	long := string(some(64))
	for i, c := range []struct {
		prefix, key string
		want        api.Errno
	}{
		{"a/", "a/", api.OK},
		{"a/", "a/x", api.OK},
		{"a/", "a//", api.OK},
		{"a/", "a/\x00", api.OK},
		{"a/", "a/" + strings.Repeat("x", 62), api.OK},
		{"a/", "a", api.ErrGrant},
		{"a/", "/", api.ErrGrant},
		{"a/", "ab", api.ErrGrant},
		{"a/", "b/", api.ErrGrant},
		{"a/", "A/x", api.ErrGrant},
		{"a/", "xa/", api.ErrGrant},
		{"a/", "x/a/x", api.ErrGrant},
		{"a/", " a/x", api.ErrGrant},
		{"a/", "a./x", api.ErrGrant},
		{"a/", "/a", api.ErrGrant},
		{"a", "a", api.OK},
		{"a", "aa", api.OK},
		{"aa", "a", api.ErrGrant},
		{"aa", "aab", api.OK},
		{"aa", "aba", api.ErrGrant},
		{"", "a", api.OK},
		{"", "\x00", api.OK},
		{"", long, api.OK},
		{"\x00", "\x00", api.OK},
		{"\x00", "\x00\x00", api.OK},
		{"\x00", "\x01", api.ErrGrant},
		{"\x00", "a", api.ErrGrant},
		{"\xc3", "é", api.OK}, // bytes count, not signs
		{"é", "\xc3", api.ErrGrant},
		{"é", "é", api.OK},
		{"é", "e\u0301", api.ErrGrant},
		{"\xff", "\xff", api.OK},
		{"\xff", "\xfe", api.ErrGrant},
		{"\xff", "\ufffd", api.ErrGrant},
		{long, long, api.OK},
		{long, long[:63], api.ErrGrant},
		{long, long[1:], api.ErrGrant},
		{long, long[:63] + "x", api.ErrGrant},
		{long, "x" + long[1:], api.ErrGrant},
		{long[:63], long, api.OK},
		{long[:63], long[:63], api.OK},
		{long[1:], long, api.ErrGrant},
	} {
		l := []api.Grant{to(1, "another"), to(4, c.prefix), to(8, "")}
		is(t, c.want, "key "+strconv.Itoa(i), l, write(4, c.key))
	}
}

// P10.2: what another client may write a client may not for that.
func TestOwnGrant(t *testing.T) {
	l := three()
	for client := 1; client <= 8; client++ {
		for _, key := range []string{"a", "a/", "a/a", "a/b", "a/bc", "b"} {
			want := api.ErrGrant
			if client == 1 && strings.HasPrefix(key, "a/") || client == 4 || client == 8 && strings.HasPrefix(key, "a/b") {
				want = api.OK
			}
			is(t, want, "own grant", l, write(client, key))
		}
	}
}

// P10.2: what is no right record is so told, though its client might write it; ahead of what its client may not, and of its signature.
func TestShape(t *testing.T) {
	for name, r := range wrong() {
		for _, l := range [][]api.Grant{nil, three(), {to(4, "")}, {to(4, "another")}, {to(1, "")}, {{Client: 4, Public: publics[1]}}} {
			is(t, api.ErrShape, name, l, r)
			is(t, api.ErrShape, name+", bent", l, with(r, func(r *api.Record) {
				if len(r.Sig) > 0 {
					r.Sig[0] ^= 1
				}
			}))
		}
	}
	is(t, api.OK, "the record itself", three(), write(4, "a/b"))
}

// P10.2: what a client may not write is told ahead of a signature that does not fit.
func TestGrantAheadOfSig(t *testing.T) {
	l := three()
	for _, r := range []api.Record{write(1, "b"), write(2, "a/x"), write(8, "a/a")} {
		is(t, api.ErrGrant, "its signature fits", l, r)
		is(t, api.ErrGrant, "its signature does not fit", l, bent(r))
		is(t, api.ErrGrant, "a signature of noughts", l, with(r, func(r *api.Record) { r.Sig = make([]byte, 64) }))
	}
}

// P10.2: a signature must fit the text, and the key of the record's client.
func TestSig(t *testing.T) {
	l := upTo(8)
	r := write(4, "a/b")
	is(t, api.OK, "as it was sealed", l, r)
	for k := range r.Sig {
		for _, by := range []byte{1, 128, byte(k + 2)} {
			is(t, api.ErrSig, "a byte of Sig", l, with(r, func(r *api.Record) { r.Sig[k] ^= by }))
		}
	}
	for name, turn := range map[string]func(r *api.Record){
		"key":              func(r *api.Record) { r.Key = "a/c" },
		"client":           func(r *api.Record) { r.Client = 3 },
		"number":           func(r *api.Record) { r.Seq = 4 },
		"context":          func(r *api.Record) { r.Context = nil },
		"context's number": func(r *api.Record) { r.Context[0].Seq++ },
		"value":            func(r *api.Record) { r.Value[0]++ },
		"gone":             func(r *api.Record) { r.Gone, r.Value = true, nil },
	} {
		is(t, api.ErrSig, name, l, with(r, turn))
	}
	gone, err := record.Seal(seed(4), with(r, func(r *api.Record) { r.Gone, r.Value = true, nil }))
	if err != api.OK {
		t.Fatal(err)
	}
	is(t, api.OK, "a key that is deleted", l, gone)
}

// P10.2: the key is that of the grant of the record's own client; who has a seed of another one's signs nothing for it.
func TestWhoSigned(t *testing.T) {
	l := upTo(8)
	for client := 1; client <= 8; client++ {
		for signer := 1; signer <= 8; signer++ {
			r, err := record.Seal(seed(signer), write(client, "a/b"))
			if err != api.OK {
				t.Fatal(err)
			}
			want := api.ErrSig
			if client == signer {
				want = api.OK
			}
			is(t, want, "who signed", l, r)
			l[client-1].Public = publics[signer] // then it is this one's to sign
			is(t, api.OK, "whose key the grant has", l, r)
			l[client-1].Public = publics[client]
		}
	}
}

// P10.2: whatever 32 bytes a grant has as its key, what is told is what record.Check tells.
func TestOddKeys(t *testing.T) {
	one := append([]byte{1}, make([]byte, 31)...) // the curve's zero: its signatures fit any text
	r := write(4, "a/b")
	of := with(r, func(r *api.Record) { r.Sig = slices.Concat(one, make([]byte, 32)) })
	if !sign.Verify(one, of.Sig, []byte("any text")) {
		t.Fatal("of small order")
	}
	if _, there := edwards.Get(noPoint()); there {
		t.Fatal("a point")
	}
	for i, public := range [][]byte{one, noPoint(), make([]byte, 32), slices.Repeat([]byte{255}, 32), some(32)} {
		l := []api.Grant{{Client: 4, Public: public}}
		for _, x := range []api.Record{r, of} {
			if got, want := may(t, "odd keys", l, x), record.Check(public, x); got != want {
				t.Error(i, got, want)
			}
		}
	}
	is(t, api.OK, "a key of small order", []api.Grant{{Client: 4, Public: one}}, of)
	is(t, api.ErrSig, "a key that is no point", []api.Grant{{Client: 4, Public: noPoint()}}, r)
}

// P10.2: of several records the first error is told, in whatever order the errors stand.
func TestOrder(t *testing.T) {
	l := three()
	kinds := []struct {
		r   api.Record
		err api.Errno
	}{
		{write(4, "a/b"), api.OK},
		{write(1, "a/x"), api.OK},
		{wrong()["no key"], api.ErrShape},
		{write(1, "b"), api.ErrGrant},
		{write(2, "a/x"), api.ErrGrant},
		{bent(write(8, "a/b")), api.ErrSig},
	}
	var row []api.Record
	var grow func(err api.Errno)
	grow = func(err api.Errno) {
		is(t, err, "order", l, row...)
		if len(row) == 4 {
			return
		}
		for _, k := range kinds {
			row = append(row, k.r)
			if err == api.OK {
				grow(k.err)
			} else {
				grow(err)
			}
			row = row[:len(row)-1]
		}
	}
	grow(api.OK)
}

// P10.2: a single record with an error is found at each place of a long row.
func TestPlaces(t *testing.T) {
	l := three()
	var all []api.Record
	for k := range 12 {
		all = append(all, []api.Record{write(4, "a/b"), write(1, "a/x"), write(8, "a/bb")}[k%3])
	}
	is(t, api.OK, "all may", l, all...)
	for at := range len(all) + 1 {
		is(t, api.ErrShape, "shape", l, slices.Insert(slices.Clone(all), at, api.Record{})...)
		is(t, api.ErrGrant, "grant", l, slices.Insert(slices.Clone(all), at, write(8, "a/x"))...)
		is(t, api.ErrSig, "signature", l, slices.Insert(slices.Clone(all), at, bent(all[0]))...)
	}
}

// P10.2: the records of a row hang on nothing of each other: unlike keys, the same one twice, one dot with two texts, one that another one is over.
func TestAnyRow(t *testing.T) {
	l := three()
	twin, _ := record.Seal(seed(4), with(write(4, "a/b"), func(r *api.Record) { r.Value = []byte("other") }))
	over, _ := record.Seal(seed(4), with(write(4, "a/b"), func(r *api.Record) { r.Seq, r.Context = 4, []api.Dot{{Client: 4, Seq: 3}} }))
	is(t, api.OK, "unlike keys", l, write(4, "b"), write(4, "a"), write(4, "c"))
	is(t, api.OK, "twice the same", l, write(4, "b"), write(4, "b"))
	is(t, api.OK, "one dot", l, write(4, "a/b"), twin)
	is(t, api.OK, "over", l, over, write(4, "a/b"))
	is(t, api.OK, "clients that fall", l, write(8, "a/b"), write(4, "a/b"), write(1, "a/b"))
}

// P10.2: grants that are not right let nothing through, wherever they are wrong, and that is told ahead of all errors of records.
func TestWrongGrants(t *testing.T) {
	rows := [][]api.Record{
		nil,
		{write(4, "a/b")},
		{write(1, "b")},
		{bent(write(4, "a/b"))},
		{{}},
		{bent(write(4, "a/b")), write(1, "b"), {}},
		{write(1, "a/x"), write(4, "a/b"), write(8, "a/b")},
	}
	wrongs := [][]api.Grant{
		{to(4, ""), to(1, "a/"), to(8, "a/b")},
		{to(1, "a/"), to(4, ""), to(4, ""), to(8, "a/b")},
		{to(1, "a/"), to(4, ""), to(8, "a/b"), {Client: 9, Public: some(32)}},
		{{Client: 0, Public: some(32)}, to(1, "a/"), to(4, ""), to(8, "a/b")},
		{{Client: math.MinInt, Public: some(32)}, to(4, "")},
	}
	for at := range 3 {
		for _, turn := range faults() {
			l := three()
			turn(&l[at])
			wrongs = append(wrongs, l)
		}
	}
	for _, l := range wrongs {
		for _, row := range rows {
			is(t, api.ErrArg, "wrong grants", l, row...)
		}
	}
}
