package record_test

import (
	"bytes"
	"math/rand"
	"testing"

	"buttress/api"
	"buttress/record"
)

// records are those that differ from an ordinary one in one thing, and chosen ones.
func records() []api.Record {
	return append(turned(), mixed(rand.New(rand.NewSource(81)), 2000)...)
}

// P8.1: whether a record is right, by each of its fields.
func TestRight(t *testing.T) {
	for _, r := range records() {
		if got := record.Right(r); got != isRight(r) {
			t.Fatalf("%s: %v", show(r), got)
		}
	}
}

// P8.1: at each bound by itself: what is right there, and what is wrong one further.
func TestBounds(t *testing.T) {
	for name, turn := range map[string][2]func(r *api.Record){
		"no key":             {func(r *api.Record) { r.Key = "k" }, func(r *api.Record) { r.Key = "" }},
		"a key of 65":        {func(r *api.Record) { r.Key = string(some(64)) }, func(r *api.Record) { r.Key = string(some(65)) }},
		"client 0":           {func(r *api.Record) { r.Client, r.Context = 1, nil }, func(r *api.Record) { r.Client, r.Context = 0, nil }},
		"client 9":           {func(r *api.Record) { r.Client = 8 }, func(r *api.Record) { r.Client = 9 }},
		"write 0":            {func(r *api.Record) { r.Seq, r.Context = 1, nil }, func(r *api.Record) { r.Seq, r.Context = 0, nil }},
		"write 2^30 + 1":     {func(r *api.Record) { r.Seq = 1 << 30 }, func(r *api.Record) { r.Seq = 1<<30 + 1 }},
		"own dot":            {func(r *api.Record) { r.Context = of(2, 4) }, func(r *api.Record) { r.Context = of(2, 5) }},
		"a dot over its own": {func(r *api.Record) { r.Context = of(1, 6) }, func(r *api.Record) { r.Context = of(2, 6) }},
		"clients that fall":  {func(r *api.Record) { r.Context = of(1, 1, 3, 1) }, func(r *api.Record) { r.Context = of(3, 1, 1, 1) }},
		"a client twice":     {func(r *api.Record) { r.Context = of(1, 1) }, func(r *api.Record) { r.Context = of(1, 1, 1, 1) }},
		"seen of client 9":   {func(r *api.Record) { r.Context = of(8, 1) }, func(r *api.Record) { r.Context = of(9, 1) }},
		"seen a write 0":     {func(r *api.Record) { r.Context = of(1, 1) }, func(r *api.Record) { r.Context = of(1, 0) }},
		"a value of 1025":    {func(r *api.Record) { r.Value = some(1024) }, func(r *api.Record) { r.Value = some(1025) }},
		"gone, with a value": {func(r *api.Record) { r.Gone, r.Value = true, []byte{} }, func(r *api.Record) { r.Gone, r.Value = true, []byte{0} }},
		"gone, with 1024":    {func(r *api.Record) { r.Gone, r.Value = true, nil }, func(r *api.Record) { r.Gone, r.Value = true, some(1024) }},
		"gone, with its own": {func(r *api.Record) { r.Value = nil }, func(r *api.Record) { r.Gone = true }},
	} {
		in, out := with(turn[0]), with(turn[1])
		if !record.Right(in) || len(record.Text(in)) == 0 {
			t.Error("not right:", name)
		}
		if record.Right(out) || len(record.Text(out)) != 0 {
			t.Error("right:", name)
		}
	}
	for n := range 130 {
		r := with(func(r *api.Record) { r.Sig = make([]byte, n) })
		if record.Right(r) != (n == 64) || len(record.Text(r)) == 0 {
			t.Errorf("a signature of %d bytes", n)
		}
	}
}

// P8.1: a record's text, whatever its signature; of a wrong shape there is none.
func TestText(t *testing.T) {
	for _, r := range records() {
		got := record.Text(r)
		if !isShaped(r) && len(got) != 0 || isShaped(r) && !bytes.Equal(got, textOf(r)) {
			t.Fatalf("%s: %s", show(r), show(got))
		}
		r.Sig = nil
		if !bytes.Equal(record.Text(r), got) {
			t.Fatalf("%s without a signature: %s", show(r), show(record.Text(r)))
		}
	}
}

// P8.1: texts written out, byte by byte.
func TestKnownTexts(t *testing.T) {
	for name, one := range map[string]struct {
		record api.Record
		want   string
	}{
		"the chapter's": {
			api.Record{Key: "a", Client: 1, Seq: 1, Value: []byte("x")},
			"\x01" + "\x00\x00\x00\x00\x00\x00\x00\x01a" + "\x00\x00\x00\x00\x00\x00\x00\x01" + "\x00\x00\x00\x00\x00\x00\x00\x01" + "\x00\x00\x00\x00\x00\x00\x00\x00" + "\x00" + "\x00\x00\x00\x00\x00\x00\x00\x01x",
		},
		"gone": {
			api.Record{Key: "\x00é", Client: 8, Seq: 1 << 30, Gone: true, Context: of(3, 258, 8, 1<<30-1)},
			"\x01" + "\x00\x00\x00\x00\x00\x00\x00\x03\x00\xc3\xa9" + "\x00\x00\x00\x00\x00\x00\x00\x08" + "\x00\x00\x00\x00\x40\x00\x00\x00" + "\x00\x00\x00\x00\x00\x00\x00\x02" +
				"\x00\x00\x00\x00\x00\x00\x00\x03" + "\x00\x00\x00\x00\x00\x00\x01\x02" + "\x00\x00\x00\x00\x00\x00\x00\x08" + "\x00\x00\x00\x00\x3f\xff\xff\xff" + "\x01" + "\x00\x00\x00\x00\x00\x00\x00\x00",
		},
	} {
		if got := record.Text(one.record); string(got) != one.want {
			t.Errorf("%s: %x", name, got)
		}
	}
}

// The chapter's example.
func TestExample(t *testing.T) {
	r := api.Record{Key: "a", Client: 1, Seq: 1, Value: []byte("x"), Sig: some(64)}
	if text := record.Text(r); len(text) != 44 || text[0] != 1 || !record.Right(r) {
		t.Errorf("%x", text)
	}
	r.Context = of(1, 1)
	if text := record.Text(r); len(text) != 0 || record.Right(r) {
		t.Errorf("%x", text)
	}
}

// beside are records of several keys, each dot of three clients, and several contexts, some of a wrong shape; two and two of one dot, unlike.
func beside() []api.Record {
	var out []api.Record
	for _, key := range []string{"k", "kk", "l", "K", "\xff", "\xfe"} {
		for client := range 4 {
			for seq := 1; seq <= 2; seq++ {
				for i, context := range [][]api.Dot{nil, of(1, 1), of(2, 1), of(1, 2, 2, 1, 3, 2), of(1, 1, 2, 2), of(2, 1, 1, 1)} {
					out = append(out, api.Record{Key: key, Client: client, Seq: seq, Context: context, Value: some(i)})
				}
			}
		}
	}
	out = append(out, one(), api.Record{}, api.Record{Key: "k", Client: 1, Seq: 1, Gone: true, Value: []byte("x")}, api.Record{Key: "k", Client: 3, Seq: 9, Gone: true, Context: of(1, 9, 2, 9, 3, 8)})
	return out
}

// P8.1: who is over whom, of all pairs; whatever their signatures, which may be none.
func TestOver(t *testing.T) {
	all, over := beside(), 0
	for _, a := range all {
		for _, b := range all {
			if got := record.Over(a, b); got != isOver(a, b) {
				t.Fatalf("%s, %s: %v", show(a), show(b), got)
			}
			if record.Over(a, b) {
				over++
			}
		}
	}
	if over < 100 {
		t.Error("few are over others:", over)
	}
	a := api.Record{Key: "k", Client: 1, Seq: 1, Context: of(2, 1)}
	b := api.Record{Key: "k", Client: 2, Seq: 1, Context: of(1, 1)}
	if !record.Over(a, b) || !record.Over(b, a) {
		t.Error("two that say that they had seen each other")
	}
}

// P8.1: where one of both has a wrong shape, it is over nothing, and nothing is over it.
func TestOverOfWrong(t *testing.T) {
	upper := func() api.Record { return with(func(r *api.Record) { r.Client, r.Seq, r.Context = 3, 1, of(2, 9) }) }
	lower := func() api.Record { return with(func(r *api.Record) { r.Client, r.Seq, r.Context = 2, 9, of(1, 1) }) }
	if !record.Over(upper(), lower()) {
		t.Fatal("over")
	}
	for name, turn := range map[string]func(r *api.Record){
		"value":      func(r *api.Record) { r.Value = some(1025) },
		"gone":       func(r *api.Record) { r.Gone = true },
		"dot behind": func(r *api.Record) { r.Context = append(r.Context, api.Dot{Client: 9, Seq: 1}) },
		"dot twice":  func(r *api.Record) { r.Context = append(r.Context, r.Context[0]) },
		"own dot":    func(r *api.Record) { r.Context = append(r.Context, api.Dot{Client: r.Client, Seq: r.Seq}) },
	} {
		a, b := upper(), lower()
		turn(&a)
		turn(&b)
		if record.Over(a, lower()) || record.Over(upper(), b) {
			t.Error(name)
		}
	}
	for _, key := range []string{"", string(some(65))} {
		a, b := upper(), lower()
		a.Key, b.Key = key, key
		if record.Over(a, b) {
			t.Errorf("a key of %d bytes", len(key))
		}
	}
}

// P8.4: no record is over itself, nor over another one of its dot.
func TestOverItself(t *testing.T) {
	for _, r := range append(records(), beside()...) {
		if record.Over(r, r) {
			t.Fatalf("%s is over itself", show(r))
		}
		other := copied(r)
		other.Value, other.Context = []byte("other"), nil
		if record.Over(r, other) || record.Over(other, r) {
			t.Fatalf("%s: over one of its dot", show(r))
		}
	}
}
