package proof_test

import (
	"fmt"
	"slices"
	"strings"
	"testing"

	"buttress/api"
	"buttress/proof"
)

// stub is one of a key.
func stub(key string) api.Stub {
	return api.Stub{Key: key, Sum: digest(len(key))}
}

// stubs are those of the keys, in their order.
func stubs(keys ...string) []api.Stub {
	var out []api.Stub
	for _, k := range keys {
		out = append(out, stub(k))
	}
	return out
}

// mustRight fails, unless Right says of a proof what the chapter's words do, and what the test wants.
func mustRight(t *testing.T, of string, p api.Proof, want bool) {
	t.Helper()
	if isRight(p) != want {
		t.Fatalf("%s: the model says %v", of, !want)
	}
	if proof.Right(p) != want {
		t.Errorf("%s: %v", of, !want)
	}
}

// P13.1: Side has from none to 510 digests, whatever they are, with none and with one stub.
func TestRightSide(t *testing.T) {
	for n := range 520 {
		for _, end := range [][]api.Stub{nil, {}, stubs("k")} {
			mustRight(t, fmt.Sprint(n, " of Side, ", len(end), " of End"), api.Proof{Side: digests(n), End: end}, n <= 510)
			same := slices.Repeat([][]byte{make([]byte, 64)}, n)
			mustRight(t, fmt.Sprint(n, " alike of Side, ", len(end), " of End"), api.Proof{Side: same, End: end}, n <= 510)
		}
	}
	mustRight(t, "no Side", api.Proof{Side: nil, End: nil}, true)
	mustRight(t, "an empty Side", api.Proof{Side: [][]byte{}, End: []api.Stub{}}, true)
	for _, n := range []int{766, 1020, 1022, 1 << 12, 1 << 16} {
		mustRight(t, fmt.Sprint(n, " of Side"), api.Proof{Side: slices.Repeat([][]byte{digest(0)}, n)}, false)
	}
}

// P13.1: each digest of Side has 64 bytes.
func TestRightDigests(t *testing.T) {
	for _, n := range []int{1, 2, 3, 255, 256, 257, 509, 510} {
		for _, at := range []int{0, n / 2, n - 1} {
			for _, size := range []int{0, 1, 32, 63, 64, 65, 128, 1 << 16} {
				for _, end := range [][]api.Stub{nil, stubs("k")} {
					p := api.Proof{Side: digests(n), End: end}
					p.Side[at] = some(size)
					mustRight(t, fmt.Sprint(n, " of Side, that at ", at, " of ", size), p, size == 64)
				}
			}
			p := api.Proof{Side: digests(n)}
			p.Side[at] = nil
			mustRight(t, fmt.Sprint(n, " of Side, none at ", at), p, false)
		}
	}
	p := api.Proof{Side: [][]byte{some(63), some(65)}}
	mustRight(t, "63 and 65", p, false)
}

// P13.1: a stub has a key of 1 to 64 bytes, whatever they are, and 64 bytes as Sum.
func TestRightStub(t *testing.T) {
	for _, side := range []int{0, 1, 509, 510} {
		for size := range 70 {
			mustRight(t, fmt.Sprint("a key of ", size), api.Proof{Side: digests(side), End: []api.Stub{{Key: string(some(size)), Sum: digest(1)}}}, 1 <= size && size <= 64)
			mustRight(t, fmt.Sprint("a Sum of ", size), api.Proof{Side: digests(side), End: []api.Stub{{Key: "k", Sum: some(size)}}}, size == 64)
		}
		for _, size := range []int{128, 256, 256 + 64, 1 << 16, 1 << 20} {
			mustRight(t, fmt.Sprint("a key of ", size), api.Proof{Side: digests(side), End: []api.Stub{{Key: string(some(size)), Sum: digest(1)}}}, false)
			mustRight(t, fmt.Sprint("a Sum of ", size), api.Proof{Side: digests(side), End: []api.Stub{{Key: "k", Sum: some(size)}}}, false)
		}
		mustRight(t, "no stub's", api.Proof{Side: digests(side), End: []api.Stub{{}}}, false)
		mustRight(t, "no Sum", api.Proof{Side: digests(side), End: []api.Stub{{Key: "k"}}}, false)
		mustRight(t, "33 letters of two bytes", api.Proof{Side: digests(side), End: stubs(strings.Repeat("é", 33))}, false)
		mustRight(t, "32 letters of two bytes", api.Proof{Side: digests(side), End: stubs(strings.Repeat("é", 32))}, true)
		for b := range 256 {
			mustRight(t, fmt.Sprint("the key ", b), api.Proof{Side: digests(side), End: stubs(string([]byte{byte(b)}))}, true)
		}
	}
}

// P13.1: two stubs or more stand beside just 510 digests.
func TestRightMany(t *testing.T) {
	many := []string{}
	for n := range 300 {
		many = append(many, fmt.Sprintf("%03d", n))
	}
	for _, n := range []int{2, 3, 4, 16, 256, 300} {
		for _, side := range []int{0, 1, 2, 38, 254, 255, 256, 508, 509, 510, 511, 512, 1020} {
			p := api.Proof{Side: digests(side), End: stubs(many[:n]...)}
			mustRight(t, fmt.Sprint(side, " of Side, ", n, " stubs"), p, side == 510)
		}
		for at := range n {
			for of, bad := range map[string]api.Stub{
				"no key":      {Sum: digest(0)},
				"a key of 65": {Key: many[at] + strings.Repeat("k", 62), Sum: digest(0)},
				"no Sum":      {Key: many[at]},
				"63":          {Key: many[at], Sum: some(63)},
				"65":          {Key: many[at], Sum: some(65)},
			} {
				p := api.Proof{Side: digests(510), End: stubs(many[:n]...)}
				p.End[at] = bad
				mustRight(t, fmt.Sprint(of, " at ", at, " of ", n), p, false)
			}
			p := api.Proof{Side: digests(510), End: stubs(many[:n]...)}
			p.End[at] = api.Stub{Key: many[at] + strings.Repeat("k", 61), Sum: some(64)}
			mustRight(t, fmt.Sprint("a key of 64 at ", at, " of ", n), p, true)
		}
	}
}

// P13.1: the keys of two stubs or more rise, byte by byte.
func TestRightRise(t *testing.T) {
	long := strings.Repeat("k", 64)
	rising := []string{"\x00", "\x00\x00", "\x01", "10", "2", "A", "B", "a", "a\x00", "a ", "aa", "b", long[:63], long, long[:63] + "l", "\x7f", "\x80", "\xc3\xa9", "\xff", "\xff\x00", "\xff\xff"}
	for i, a := range rising {
		for j, b := range rising {
			mustRight(t, fmt.Sprintf("%q, %q", a, b), api.Proof{Side: digests(510), End: stubs(a, b)}, i < j)
			for k, c := range rising {
				mustRight(t, fmt.Sprintf("%q, %q, %q", a, b, c), api.Proof{Side: digests(510), End: stubs(a, b, c)}, i < j && j < k)
			}
		}
	}
	mustRight(t, "all", api.Proof{Side: digests(510), End: stubs(rising...)}, true)
	for at := range len(rising) - 1 {
		p := api.Proof{Side: digests(510), End: stubs(rising...)}
		p.End[at], p.End[at+1] = p.End[at+1], p.End[at]
		mustRight(t, fmt.Sprint("two that fall, at ", at), p, false)
		p = api.Proof{Side: digests(510), End: stubs(rising...)}
		p.End[at+1] = api.Stub{Key: p.End[at].Key, Sum: digest(900)}
		mustRight(t, fmt.Sprint("one key twice, with unlike Sums, at ", at), p, false)
	}
}

// P13.1: that a proof is right hangs on no key's shard and way, nor on what is digested.
func TestRightAlone(t *testing.T) {
	for s := range 4 {
		for _, key := range oddKeys(s) {
			for _, side := range []int{0, 1, 255, 510} {
				mustRight(t, fmt.Sprintf("%q", key), api.Proof{Side: digests(side), End: stubs(key)}, true)
			}
		}
		two := keys(s, 2)
		slices.Sort(two)
		mustRight(t, "two whose ways part", api.Proof{Side: digests(510), End: stubs(two...)}, true)
	}
	two := append(keys(0, 1), keys(2, 1)...)
	slices.Sort(two)
	mustRight(t, "two of unlike shards", api.Proof{Side: digests(510), End: stubs(two...)}, true)
}
