package grant_test

import (
	"math"
	"math/rand"
	"testing"

	"buttress/api"
	"buttress/grant"
)

// find fails, unless Find tells just what the chapter's words say; whether there is a grant.
func find(t *testing.T, of string, l []api.Grant, client int) bool {
	t.Helper()
	want, there := first(l, client)
	g, ok := grant.Find(l, client)
	if ok != there || !same(g, want) {
		t.Fatalf("%s: %s: of %d %s, %v", of, show(l), client, show(g), ok)
	}
	return ok
}

// P10.1: in right grants each client's own is found, and of other numbers none.
func TestFind(t *testing.T) {
	for n := range 256 {
		var l []api.Grant
		for client := 1; client <= 8; client++ {
			if n>>(client-1)&1 == 1 {
				l = append(l, to(client, string(some(client))))
			}
		}
		for client := -1; client <= 10; client++ {
			has := 1 <= client && client <= 8 && n>>(client-1)&1 == 1
			if find(t, "right grants", l, client) != has {
				t.Error(n, client)
			}
		}
		for _, client := range []int{math.MinInt, -8, 256 + 1, 1<<32 + 1, 1<<32 + 4, math.MaxInt} {
			if find(t, "right grants", l, client) {
				t.Error(n, client)
			}
		}
	}
}

// P10.1: what is found is just the grant: its client, key and prefix; where there is none, a zero one is told.
func TestFound(t *testing.T) {
	g, ok := grant.Find(three(), 8)
	if !ok || g.Client != 8 || g.Prefix != "a/b" || string(g.Public) != string(publics[8]) {
		t.Error(show(g), ok)
	}
	for _, l := range [][]api.Grant{nil, {}, three()} {
		if g, ok := grant.Find(l, 5); ok || g.Client != 0 || g.Prefix != "" || len(g.Public) != 0 {
			t.Error(show(g), ok)
		}
	}
}

// P10.1: in grants that are not right the first one with that Client is found too, whatever it and the others have.
func TestFindOfWrong(t *testing.T) {
	double := []api.Grant{to(4, "one"), {Client: 2}, {Client: 4, Public: publics[1], Prefix: "two"}, {Client: -1, Public: some(31)}, {Client: 0, Public: some(33), Prefix: string(some(65))}, {Client: 9, Prefix: "nine"}, {Client: 2, Prefix: "a later one"}, {}, {Client: math.MinInt, Public: some(1)}, {Client: math.MaxInt, Public: some(100)}}
	if grant.Right(double) {
		t.Fatal("right")
	}
	for _, client := range []int{math.MinInt, -1, 0, 2, 4, 9, math.MaxInt} {
		if !find(t, "wrong grants", double, client) {
			t.Error(client)
		}
	}
	for _, client := range []int{math.MinInt + 1, -2, 1, 3, 5, 8, 10, 1 << 32, 1<<32 + 4, math.MaxInt - 1} {
		if find(t, "wrong grants", double, client) {
			t.Error(client)
		}
	}
	if g, _ := grant.Find(double, 4); g.Prefix != "one" {
		t.Error(show(g))
	}
	if g, ok := grant.Find([]api.Grant{{}, to(1, "")}, 0); !ok || !same(g, api.Grant{}) {
		t.Error("of a zero grant:", show(g), ok)
	}
}

// P10.1: in rows that a chance makes, right ones and others.
func TestFindMixed(t *testing.T) {
	rnd := rand.New(rand.NewSource(102))
	found := 0
	for range 5000 {
		l := anyTable(rnd)
		for client := -1; client <= 10; client++ {
			if find(t, "mixed", l, client) {
				found++
			}
		}
	}
	if found < 5000 {
		t.Error("few were found:", found)
	}
}
