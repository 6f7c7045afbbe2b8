package shard_test

import (
	"encoding/hex"
	"fmt"
	"strings"
	"testing"

	"buttress/shard"
)

// P11.1: the chapter's example.
func TestExample(t *testing.T) {
	for _, key := range append(alike(), ordinary(100)...) {
		n, way := shard.Of(key), shard.Bits(key)
		if n != 0 && n != 1 && n != 2 && n != 3 {
			t.Errorf("%q: %d", key, n)
		}
		if len(way) != 510 || strings.Trim(way, "01") != "" {
			t.Errorf("%q: %s", key, way)
		}
		if shard.Of(key) != n || shard.Bits(key) != way {
			t.Errorf("%q: another answer", key)
		}
	}
}

// P11.1: digests of the byte 6 and a key that another program told.
func TestKnown(t *testing.T) {
	for _, known := range []struct {
		key   string
		shard int
		sum   string // base 16
	}{
		{"", 1, "5815087df95b7c04fcf3e89c3cbee8fc10bd15a4b269f2919709167d320384b15c41b6b75e978ab0d4668b6c77aa7f1cae243f69b54fc970bca3726080f49535"},
		{"a/x", 0, "11e48a7608e37f88ab90b8085cc9fb82ec16f58cf03db573b860fce87963a768fecd881276ec6691416548718932cd70234005d65ad7da776e2f65fd2ac4a1d5"},
		{"a/b", 1, "70b8ec17c4d3a5b5a1951a85495c9b3b703f163efcdc2c089a8ed88c4064874b2f598155522dcffc8b0941824932e849718deb2c6d272483fa44c6e2ff4b679e"},
		{"a/i", 2, "a5f5eb32934b867638b4cb4eb39f0ee73ba4f30b13a817103b2c9978cc137744480906356ebfb2a9f4fcc72bffc861d4de6dcf2db9d6622cf291fad2b2b3a621"},
		{"\x06", 3, "f8d6e3957508543ba5bcfc2dc62553bb37aa322953f43cb73d29d4151fa65781b0dd4711f0ffa2cd9d4bb7809ef2eac19d8c7a37089e20d8fded830ab27b8aeb"},
		{"\xff\xfe", 0, "192695a54b52277c5674b67094d798d266a6c113955c6ba93b58b59645e5f739886cbdb024060002297e4a1480217cb19a0d216d8a29abaa7021fb371f442e54"},
		{strings.Repeat("k", 127), 0, "3b368e33b1f6368e0c16833a7813c2646a9be0fa7575e69c5d9ebeb7f9054533b959204a400d42d5f99134bb2d5310a6e8ce78bb724a2a2262553c3cef134d98"},
		{strings.Repeat("k", 128), 3, "efedbd16301ae429fc1848f3b779b9f4ecd3fdc3d94d9f8f8329b5e0808c9989c6824760cae4d1f77f98b59e0d9722fc66d5a4352ba658f6266a517fbc4a550d"},
	} {
		sum, err := hex.DecodeString(known.sum)
		if err != nil {
			t.Fatal(err)
		}
		var all strings.Builder
		for _, b := range sum {
			fmt.Fprintf(&all, "%08b", b)
		}
		if got := shard.Of(known.key); got != known.shard {
			t.Errorf("%.9q: %d", known.key, got)
		}
		if got := shard.Bits(known.key); got != all.String()[2:] {
			t.Errorf("%.9q: %s", known.key, got)
		}
	}
}

// P11.1: a way that is written out, sign by sign.
func TestWrittenOut(t *testing.T) {
	const way = "" + // 58 is 0101 1000 to the base 2, of which the first two are the shard's
		"011000" + "00010101" + "00001000" + "01111101" + "11111001" + "01011011" + "01111100" + "00000100"
	if got := shard.Bits(""); !strings.HasPrefix(got, way) {
		t.Error(got)
	}
	if got := shard.Bits(""); !strings.HasSuffix(got, "10000000"+"11110100"+"10010101"+"00110101") { // 80 f4 95 35
		t.Error(got)
	}
}

// P11.1: the empty key, all keys of one byte, and each byte beside another one.
func TestShort(t *testing.T) {
	check(t, "")
	for b := range 256 {
		one := string([]byte{byte(b)})
		for _, key := range []string{one, one + "a", "a" + one, one + "\x00", "\xff" + one} {
			check(t, key)
		}
	}
}

// P11.1: keys that are no text, and keys that look alike: their bytes are taken as they are.
func TestBytes(t *testing.T) {
	seen := map[string]string{}
	for _, key := range alike() {
		check(t, key)
		at := fmt.Sprint(shard.Of(key), shard.Bits(key))
		if other, ok := seen[at]; ok {
			t.Errorf("%q stands where %q does", key, other)
		}
		seen[at] = key
	}
}

// P11.1: keys of each length about that of a block of a digest, with the byte 6 ahead and without, and of several blocks.
func TestLengths(t *testing.T) {
	for n := range 700 {
		check(t, some(n))
		check(t, strings.Repeat("k", n))
		check(t, strings.Repeat("\x00", n))
	}
}

// P11.1: long keys count to their last byte.
func TestLong(t *testing.T) {
	for _, n := range []int{1<<10 - 1, 1 << 10, 1<<10 + 1, 1<<16 - 1, 1 << 16, 1<<16 + 1, 1<<20 + 110, 1 << 24} {
		key := some(n)
		check(t, key)
		check(t, key[:n-1])
		check(t, key[:n-1]+string([]byte{^key[n-1]}))
	}
}

// P11.1: ordinary keys.
func TestOrdinary(t *testing.T) {
	for _, key := range ordinary(5000) {
		check(t, key)
	}
}

// P11.1: each of the four is the shard of some key, and that by both of the first two bits.
func TestEachShard(t *testing.T) {
	var of [4]int
	for _, key := range ordinary(4000) {
		n, _ := where(key)
		if got := shard.Of(key); got != n {
			t.Fatalf("%q: %d, not %d", key, got, n)
		}
		of[n]++
	}
	for n, many := range of {
		if many < 800 {
			t.Errorf("shard %d: of %d keys in 4000", n, many)
		}
	}
}

// P11.1: each sign of the way is 0 of some keys and 1 of others, and none hangs on another one.
func TestEachSign(t *testing.T) {
	const keys = 300
	columns := map[string]int{}
	rows := make([]string, keys)
	for i, key := range ordinary(keys) {
		rows[i] = shard.Bits(key)
	}
	for k := range 510 {
		var column strings.Builder
		for _, way := range rows {
			column.WriteByte(way[k])
		}
		if ones := strings.Count(column.String(), "1"); ones < keys/4 || ones > 3*keys/4 {
			t.Errorf("sign %d: 1 of %d keys in %d", k, ones, keys)
		}
		if other, ok := columns[column.String()]; ok {
			t.Errorf("sign %d is sign %d", k, other)
		}
		columns[column.String()] = k
	}
}
