package grant_test

import (
	"math"
	"math/rand"
	"slices"
	"strings"
	"testing"

	"buttress/api"
	"buttress/grant"
)

// right fails, unless Right, and May of no record, tell of grants what the chapter's words say; whether they are right.
func right(t *testing.T, of string, l []api.Grant) bool {
	t.Helper()
	want, err := isRight(l), api.ErrArg
	if want {
		err = api.OK
	}
	if got := grant.Right(l); got != want {
		t.Fatalf("%s: %s: %v", of, show(l), got)
	}
	if got := grant.May(l); got != err {
		t.Fatalf("%s: %s: %d", of, show(l), int(got))
	}
	return want
}

// long is a grant with a key and a prefix of those lengths.
func long(public, prefix int) api.Grant {
	return api.Grant{Client: 3, Public: some(public), Prefix: string(some(prefix))}
}

// P10.1: grants that are right, and that are not; none at all are right.
func TestRight(t *testing.T) {
	for name, one := range map[string]struct {
		l    []api.Grant
		want bool
	}{
		"none":                           {nil, true},
		"empty":                          {[]api.Grant{}, true},
		"one":                            {[]api.Grant{to(1, "a/")}, true},
		"the last client alone":          {[]api.Grant{to(8, "a/")}, true},
		"three":                          {three(), true},
		"all eight":                      {[]api.Grant{to(1, ""), to(2, "a"), to(3, "b"), to(4, ""), to(5, "a"), to(6, "c"), to(7, "d"), to(8, "e")}, true},
		"clients that fall":              {[]api.Grant{to(4, "a/"), to(1, "b/")}, false},
		"clients that fall at the end":   {[]api.Grant{to(1, ""), to(2, ""), to(5, ""), to(4, "")}, false},
		"clients that fall at the front": {[]api.Grant{to(2, ""), to(1, ""), to(5, ""), to(7, "")}, false},
		"twice one client, the same":     {[]api.Grant{to(4, "a/"), to(4, "a/")}, false},
		"twice one client, unlike":       {[]api.Grant{to(1, ""), to(4, "a/"), to(4, "b/")}, false},
		"one client on both sides":       {[]api.Grant{to(1, ""), to(2, ""), to(1, "")}, false},
		"two of one key":                 {[]api.Grant{{Client: 1, Public: publics[1]}, {Client: 2, Public: publics[1]}}, true},
		"two of one prefix":              {[]api.Grant{to(1, "a/"), to(2, "a/")}, true},
		"prefixes that fall":             {[]api.Grant{to(1, "b"), to(2, "a")}, true},
		"client 0":                       {[]api.Grant{{Client: 0, Public: some(32), Prefix: "a/"}}, false},
		"client -1":                      {[]api.Grant{{Client: -1, Public: some(32)}}, false},
		"client 0 ahead of another":      {[]api.Grant{{Client: 0, Public: some(32)}, to(1, "")}, false},
		"client 9":                       {[]api.Grant{{Client: 9, Public: some(32)}}, false},
		"client 9 behind all":            {[]api.Grant{to(1, ""), to(8, ""), {Client: 9, Public: some(32)}}, false},
		"nothing in it":                  {[]api.Grant{{}}, false},
		"a client alone":                 {[]api.Grant{{Client: 1}}, false},
		"a key of none":                  {[]api.Grant{{Client: 1, Public: []byte{}, Prefix: "a/"}}, false},
		"a key of 31":                    {[]api.Grant{long(31, 2)}, false},
		"a key of 32":                    {[]api.Grant{long(32, 2)}, true},
		"a key of 33":                    {[]api.Grant{long(33, 2)}, false},
		"a key that is no point":         {[]api.Grant{{Client: 1, Public: noPoint()}}, true},
		"no prefix":                      {[]api.Grant{long(32, 0)}, true},
		"a prefix of 63":                 {[]api.Grant{long(32, 63)}, true},
		"a prefix of 64":                 {[]api.Grant{long(32, 64)}, true},
		"a prefix of 65":                 {[]api.Grant{long(32, 65)}, false},
		"a prefix of 64 signs of two":    {[]api.Grant{to(1, strings.Repeat("é", 64))}, false},
		"a prefix of 32 signs of two":    {[]api.Grant{to(1, strings.Repeat("é", 32))}, true},
		"a prefix that is no text":       {[]api.Grant{to(1, "\xff\x00")}, true},
	} {
		if right(t, name, one.l) != one.want {
			t.Error(name)
		}
	}
}

// noPoint are 32 bytes that are no point's.
func noPoint() []byte {
	b := make([]byte, 32)
	b[0] = 2
	return b
}

// P10.1: all rows of up to four grants whose clients are about the bounds.
func TestRightClients(t *testing.T) {
	clients := []int{math.MinInt, -1, 0, 1, 2, 7, 8, 9, 1<<32 + 1, math.MaxInt}
	var l []api.Grant
	rights := 0
	var grow func()
	grow = func() {
		if right(t, "clients", l) {
			rights++
		}
		if len(l) == 4 {
			return
		}
		for _, c := range clients {
			l = append(l, api.Grant{Client: c, Public: publics[1]})
			grow()
			l = l[:len(l)-1]
		}
	}
	grow()
	if rights != 16 { // as many as 1, 2, 7 and 8 have parts
		t.Error(rights)
	}
}

// P10.1: keys and prefixes of all lengths about the bounds, and far off them.
func TestRightLengths(t *testing.T) {
	lengths := []int{100, 127, 128, 256, 256 + 32, 256 + 64, 1 << 16, 1<<16 + 32, 1<<16 + 64}
	for n := range 70 {
		lengths = append(lengths, n)
	}
	for _, n := range lengths {
		if right(t, "a key's length", []api.Grant{long(n, 1)}) != (n == 32) {
			t.Error("a key of", n)
		}
		if right(t, "a prefix's length", []api.Grant{long(32, n)}) != (n <= 64) {
			t.Error("a prefix of", n)
		}
	}
}

// faults are what makes a grant wrong, each by one thing.
func faults() map[string]func(g *api.Grant) {
	return map[string]func(g *api.Grant){
		"nothing in it":   func(g *api.Grant) { *g = api.Grant{} },
		"client 0":        func(g *api.Grant) { g.Client = 0 },
		"client -1":       func(g *api.Grant) { g.Client = -1 },
		"client 9":        func(g *api.Grant) { g.Client = 9 },
		"the least int":   func(g *api.Grant) { g.Client = math.MinInt },
		"the most int":    func(g *api.Grant) { g.Client = math.MaxInt },
		"no key":          func(g *api.Grant) { g.Public = nil },
		"a key of 31":     func(g *api.Grant) { g.Public = g.Public[:31] },
		"a key of 33":     func(g *api.Grant) { g.Public = append(g.Public, 0) },
		"a key of 64":     func(g *api.Grant) { g.Public = append(g.Public, g.Public...) },
		"a prefix of 65":  func(g *api.Grant) { g.Prefix = strings.Repeat("a", 65) },
		"a prefix of 64k": func(g *api.Grant) { g.Prefix = strings.Repeat("a", 1<<16) },
	}
}

// upTo are the grants of the clients from 1 to n.
func upTo(n int) []api.Grant {
	var l []api.Grant
	for client := 1; client <= n; client++ {
		l = append(l, to(client, ""))
	}
	return l
}

// P10.1: with one grant that is wrong, wherever it stands, no row is right.
func TestRightOfWrong(t *testing.T) {
	for n := 1; n <= 8; n++ {
		for at := range n {
			for name, turn := range faults() {
				l := upTo(n)
				turn(&l[at])
				if right(t, name, l) {
					t.Error(name, n, at)
				}
			}
			for other := range n {
				l := upTo(n)
				l[at].Client = l[other].Client
				if right(t, "a client twice", l) != (at == other) {
					t.Error("a client twice:", n, at, other)
				}
				l = upTo(n)
				l[at], l[other] = l[other], l[at]
				if right(t, "two in each other's place", l) != (at == other) {
					t.Error("two in each other's place:", n, at, other)
				}
			}
			if l := slices.Delete(upTo(n), at, at+1); !right(t, "one less", l) {
				t.Error("one less:", n, at)
			}
		}
	}
}

// P10.1: rows that a chance makes, most of them rising.
func TestRightMixed(t *testing.T) {
	rnd := rand.New(rand.NewSource(101))
	rights := 0
	for range 20000 {
		if right(t, "mixed", anyTable(rnd)) {
			rights++
		}
	}
	if rights < 2000 || rights > 18000 {
		t.Error("right ones:", rights)
	}
}

// anyTable are grants that r chooses, about half of them right.
func anyTable(r *rand.Rand) []api.Grant {
	var l []api.Grant
	for client := 1; client <= 8; client++ {
		if r.Intn(2) == 0 {
			l = append(l, to(client, string(some(r.Intn(4)))))
		}
	}
	if len(l) == 0 || r.Intn(2) == 0 {
		return l
	}
	at := r.Intn(len(l))
	switch r.Intn(6) {
	case 0:
		l[at].Client = r.Intn(12) - 1
	case 1:
		l[at].Public = some(30 + r.Intn(5))
	case 2:
		l[at].Prefix = string(some(62 + r.Intn(5)))
	case 3:
		l = slices.Insert(l, at, l[r.Intn(len(l))])
	case 4:
		r.Shuffle(len(l), func(i, j int) { l[i], l[j] = l[j], l[i] })
	case 5:
		l = slices.Insert(l, at, api.Grant{})
	}
	return l
}

// R1: of very much, each call ends at once.
func TestVeryMuch(t *testing.T) {
	huge := string(make([]byte, 1<<24))
	rising := make([]api.Grant, 1<<18)
	for i := range rising {
		rising[i] = api.Grant{Client: i + 1, Public: publics[1]}
	}
	for i, l := range [][]api.Grant{rising, make([]api.Grant, 1<<18), {to(1, huge)}, {{Client: 1, Public: []byte(huge)}}} {
		if right(t, "very much", l) {
			t.Error(i)
		}
	}
	if g, ok := grant.Find(rising, 1<<18); !ok || g.Client != 1<<18 {
		t.Error("the last one:", show(g), ok)
	}
	r := write(4, "a/b")
	for i, bad := range []api.Record{
		with(r, func(r *api.Record) { r.Key = huge }),
		with(r, func(r *api.Record) { r.Value = []byte(huge) }),
		with(r, func(r *api.Record) { r.Sig = []byte(huge) }),
		with(r, func(r *api.Record) { r.Context = make([]api.Dot, 1<<20) }),
	} {
		if err := grant.May(three(), r, bad); err != api.ErrShape {
			t.Error(i, err)
		}
	}
	if err := grant.May(three(), make([]api.Record, 1<<18)...); err != api.ErrShape {
		t.Error("zero records:", err)
	}
}
