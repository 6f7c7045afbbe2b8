package shard_test

import (
	"crypto/sha512"
	"fmt"
	"math/big"
	"math/rand"
	"strings"
	"testing"

	"buttress/shard"
)

// where a key stands by the chapter's words: its digest, by another SHA-512, is one number, whose 512 signs to the base 2 are its bits.
func where(key string) (int, string) {
	sum := sha512.Sum512([]byte("\x06" + key))
	all := fmt.Sprintf("%0512b", new(big.Int).SetBytes(sum[:]))
	n, ok := map[string]int{"00": 0, "01": 1, "10": 2, "11": 3}[all[:2]]
	if !ok {
		panic(all)
	}
	return n, all[2:]
}

// check fails, unless Of and Bits tell just where the key stands.
func check(t *testing.T, key string) {
	t.Helper()
	n, way := where(key)
	if got := shard.Of(key); got != n {
		t.Fatalf("%.40q of %d bytes: shard %d, not %d", key, len(key), got, n)
	}
	if got := shard.Bits(key); got != way {
		t.Fatalf("%.40q of %d bytes: %s, not %s", key, len(key), got, way)
	}
}

// some is a key of n bytes, the same for each n, without a period; its bytes are any, so that it is seldom text.
func some(n int) string {
	b := make([]byte, n)
	rand.New(rand.NewSource(int64(n) + 11)).Read(b)
	return string(b)
}

// alike are keys that are no text, and keys that look like another one of them, or would be it if they were turned to text, trimmed, cut or folded.
func alike() []string {
	return []string{
		"", "\x00", "\x00\x00", "\x06", "\x06\x06", " ", "\n", "\r\n", "\t",
		"a", "A", "a\x00", "\x00a", "\x06a", " a", "a ", "a\n", "a/", "/a", "a/a", "a/../a", "a//a",
		"0", "1", "01", "10", "00", "+1", "1.0",
		"\xc3\xa9", "e\xcc\x81", "\xe9", "\xc3", "\xa9", "\xa9\xc3", // an é put as one rune, as two, as no text
		"\xff", "\xfe", "\x80", "\xff\xff", "\xc0\x80", "\xed\xa0\x80", "\xf4\x90\x80\x80", "\xef\xbf\xbd", "\xef\xbb\xbf", "\xef\xbb\xbfa",
		"\xff\x00\xff", "a\xffb", "a\xfeb", "a\xef\xbf\xbdb",
		strings.Repeat("a", 64), strings.Repeat("a", 65), strings.Repeat("a", 255), strings.Repeat("a", 256), strings.Repeat("a", 257),
	}
}

// ordinary are keys as they are used.
func ordinary(n int) []string {
	var out []string
	for i := range n {
		out = append(out, fmt.Sprintf("%c/key %d", 'a'+i%26, i))
	}
	return out
}
