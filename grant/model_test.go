package grant_test

import (
	"bytes"
	"fmt"
	"math/rand"
	"slices"
	"strconv"
	"testing"

	"buttress/api"
	"buttress/grant"
	"buttress/record"
	"buttress/sign"
)

// some is n bytes, the same for each n, without a period.
func some(n int) []byte {
	b := make([]byte, n)
	rand.New(rand.NewSource(int64(n) + 10)).Read(b)
	return b
}

// seed is the secret of the client of that number.
func seed(client int) []byte {
	b := some(32)
	b[0] = byte(client)
	return b
}

// publics are the clients' keys, reckoned once: of 1 to 8, each in its place.
var publics = func() [][]byte {
	all := [][]byte{nil}
	for client := 1; client <= 8; client++ {
		all = append(all, sign.Public(seed(client)))
	}
	return all
}()

// to is a grant of the client, with its own key.
func to(client int, prefix string) api.Grant {
	return api.Grant{Client: client, Public: slices.Clone(publics[client]), Prefix: prefix}
}

// three are right grants: of the clients 1, 4 and 8.
func three() []api.Grant {
	return []api.Grant{to(1, "a/"), to(4, ""), to(8, "a/b")}
}

// write is a record that its client sealed.
func write(client int, key string) api.Record {
	r, err := record.Seal(seed(client), api.Record{Key: key, Client: client, Seq: 3, Context: []api.Dot{{Client: 2, Seq: 2}, {Client: 5, Seq: 1}}, Value: []byte("value")})
	if err != api.OK {
		panic("a record was not sealed: " + key)
	}
	return r
}

// with answers the record, turned.
func with(r api.Record, turn func(r *api.Record)) api.Record {
	r.Context, r.Value, r.Sig = slices.Clone(r.Context), slices.Clone(r.Value), slices.Clone(r.Sig)
	turn(&r)
	return r
}

// bent is the record with another signature.
func bent(r api.Record) api.Record {
	return with(r, func(r *api.Record) { r.Sig[40] ^= 1 })
}

// wrong are records that are not right, each by one thing.
func wrong() map[string]api.Record {
	r := write(4, "a/b")
	return map[string]api.Record{
		"nothing at all":      {},
		"a client alone":      {Client: 4},
		"no key":              with(r, func(r *api.Record) { r.Key = "" }),
		"a key of 65":         with(r, func(r *api.Record) { r.Key = string(some(65)) }),
		"client 0":            with(r, func(r *api.Record) { r.Client = 0 }),
		"client 9":            with(r, func(r *api.Record) { r.Client = 9 }),
		"client -4":           with(r, func(r *api.Record) { r.Client = -4 }),
		"write 0":             with(r, func(r *api.Record) { r.Seq = 0 }),
		"a write too far":     with(r, func(r *api.Record) { r.Seq = 1<<30 + 1 }),
		"its own dot":         with(r, func(r *api.Record) { r.Context = []api.Dot{{Client: 4, Seq: 3}} }),
		"no vector":           with(r, func(r *api.Record) { r.Context = []api.Dot{{Client: 3, Seq: 1}, {Client: 1, Seq: 1}} }),
		"a value of 1025":     with(r, func(r *api.Record) { r.Value = some(1025) }),
		"gone, with a value":  with(r, func(r *api.Record) { r.Gone = true }),
		"no signature":        with(r, func(r *api.Record) { r.Sig = nil }),
		"a signature of 63":   with(r, func(r *api.Record) { r.Sig = r.Sig[:63] }),
		"a signature of 65":   with(r, func(r *api.Record) { r.Sig = append(r.Sig, 0) }),
		"two signatures long": with(r, func(r *api.Record) { r.Sig = append(r.Sig, r.Sig...) }),
	}
}

// isRight says by the chapter's words whether grants are right.
func isRight(l []api.Grant) bool {
	for i, g := range l {
		if i > 0 && l[i-1].Client >= g.Client {
			return false
		}
		if g.Client < 1 || g.Client > 8 || len(g.Public) != 32 || len(g.Prefix) > 64 {
			return false
		}
	}
	return true
}

// first answers by the chapter's words the client's first grant.
func first(l []api.Grant, client int) (api.Grant, bool) {
	for _, g := range l {
		if g.Client == client {
			return g, true
		}
	}
	return api.Grant{}, false
}

// fault answers by the chapter's words a single record's error under right grants.
func fault(l []api.Grant, r api.Record) api.Errno {
	g, there := first(l, r.Client)
	switch {
	case !record.Right(r):
		return api.ErrShape
	case !there || len(r.Key) < len(g.Prefix) || r.Key[:len(g.Prefix)] != g.Prefix:
		return api.ErrGrant
	}
	return record.Check(g.Public, r)
}

// wanted answers by the chapter's words what May must tell.
func wanted(l []api.Grant, records []api.Record) api.Errno {
	if !isRight(l) {
		return api.ErrArg
	}
	for _, r := range records {
		if err := fault(l, r); err != api.OK {
			return err
		}
	}
	return api.OK
}

// may fails, unless May tells what the chapter's words say; it answers that.
func may(t *testing.T, of string, l []api.Grant, records ...api.Record) api.Errno {
	t.Helper()
	err := grant.May(l, records...)
	if want := wanted(l, records); err != want {
		t.Fatalf("%s: %s, %s: %d, not %d", of, show(l), show(records), int(err), int(want))
	}
	return err
}

// same says whether two grants are the same; a list without elements and a nil one are one.
func same(a, b api.Grant) bool {
	return a.Client == b.Client && a.Prefix == b.Prefix && bytes.Equal(a.Public, b.Public)
}

// show tells of a thing as much as can be read.
func show(x any) string {
	s := fmt.Sprintf("%+v", x)
	return strconv.QuoteToASCII(s[:min(len(s), 600)])
}
