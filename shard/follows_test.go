package shard_test

import (
	"bytes"
	"fmt"
	"math/rand"
	"strings"
	"sync"
	"testing"

	"buttress/sha"
	"buttress/shard"
)

// together puts the bytes of a digest together again, out of a shard and a way.
func together(n int, way string) []byte {
	out := []byte{0}
	bits := 0
	put := func(bit byte) {
		if bits == 8 {
			out, bits = append(out, 0), 0
		}
		out[len(out)-1] = out[len(out)-1]<<1 | bit
		bits++
	}
	put(byte(n / 2))
	put(byte(n % 2))
	for k := range len(way) {
		put(way[k] - '0')
	}
	return out
}

// keys are of each kind.
func keys() []string {
	out := append(alike(), ordinary(300)...)
	for _, n := range []int{63, 64, 65, 110, 111, 112, 125, 126, 127, 128, 129, 255, 256, 257, 5000} {
		out = append(out, some(n))
	}
	return out
}

// P11.2: Of and Bits together are the digest's 512 bits.
func TestTogether(t *testing.T) {
	for _, key := range keys() {
		want := sha.Sum([]byte{6}, []byte(key))
		if got := together(shard.Of(key), shard.Bits(key)); !bytes.Equal(got, want) {
			t.Errorf("%.40q: %x, not %x", key, got, want)
		}
	}
}

// P11.2: of the same key the same again, whatever was asked between, and in whatever order.
func TestAgain(t *testing.T) {
	all := keys()
	shards, ways := make([]int, len(all)), make([]string, len(all))
	for i, key := range all {
		shards[i], ways[i] = where(key)
	}
	r := rand.New(rand.NewSource(112))
	for range 20000 {
		i := r.Intn(len(all))
		switch r.Intn(3) {
		case 0:
			if got := shard.Of(all[i]); got != shards[i] {
				t.Fatalf("%.40q: %d", all[i], got)
			}
		case 1:
			if got := shard.Bits(all[i]); got != ways[i] {
				t.Fatalf("%.40q: %s", all[i], got)
			}
		default: // one behind the other, the way first
			if way, n := shard.Bits(all[i]), shard.Of(all[i]); n != shards[i] || way != ways[i] {
				t.Fatalf("%.40q: %d, %s", all[i], n, way)
			}
		}
	}
}

// P11.2: what was told stays as it was told.
func TestStays(t *testing.T) {
	all := keys()
	told := make([]string, len(all))
	for i, key := range all {
		told[i] = shard.Bits(key)
	}
	for i, key := range all {
		if _, way := where(key); told[i] != way {
			t.Errorf("%.40q: %s", key, told[i])
		}
	}
}

// P11.2: a key is its bytes, wherever they lie.
func TestBytesAlone(t *testing.T) {
	for _, key := range keys() {
		n, way := where(key)
		within := "ahead" + key + "behind"
		var put strings.Builder
		for k := range len(key) {
			put.WriteByte(key[k])
		}
		for _, same := range []string{key, strings.Clone(key), string([]byte(key)), within[5 : 5+len(key)], put.String()} {
			if shard.Of(same) != n || shard.Bits(same) != way {
				t.Errorf("%.40q: %d, %s", key, shard.Of(same), shard.Bits(same))
			}
		}
	}
}

// P11.2: each bit of a key's bytes plays a part, and their order does.
func TestEachByte(t *testing.T) {
	key := some(200)
	seen := map[string]bool{}
	see := func(of string) {
		check(t, of)
		at := fmt.Sprint(shard.Of(of), shard.Bits(of))
		if seen[at] {
			t.Fatalf("%q stands where another one does", of)
		}
		seen[at] = true
	}
	see(key)
	for k := range len(key) {
		for bit := range 8 {
			turned := []byte(key)
			turned[k] ^= 1 << bit
			see(string(turned))
		}
		see(key[:k])
		if k > 0 {
			see(key[k:])
			see(key[k:] + key[:k])
		}
	}
}

// P11.2: many who ask at one time are told alike.
func TestManyAsk(t *testing.T) {
	all := ordinary(200)
	var wait sync.WaitGroup
	for from := range 8 {
		wait.Go(func() {
			for i := range all {
				key := all[(i+25*from)%len(all)]
				if n, way := where(key); shard.Of(key) != n || shard.Bits(key) != way {
					t.Errorf("%q: %d, %s", key, shard.Of(key), shard.Bits(key))
				}
			}
		})
	}
	wait.Wait()
}
