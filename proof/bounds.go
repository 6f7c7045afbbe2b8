package proof

import (
	"buttress/api"
	"buttress/shard"
)

const signs = 8*api.Digest - 2 // of a way: the first two bits of a key's digest tell its shard

// isShard says whether a shard has that number.
func isShard(n int) bool {
	return 0 <= n && n < api.Shards
}

// isKey says whether a key may be that long.
func isKey(key string) bool {
	return 1 <= len(key) && len(key) <= api.MaxKey
}

// isOf says whether a text is a key of the shard.
func isOf(n int, key string) bool {
	return isKey(key) && shard.Of(key) == n
}

// isNoDigest says whether bytes are none of a digest.
func isNoDigest(b []byte) bool {
	return len(b) != api.Digest
}

// isNoStub says whether no leaf may have such a stub.
func isNoStub(s api.Stub) bool {
	return !isKey(s.Key) || isNoDigest(s.Sum)
}

// rise says whether each stub's key is greater than the one ahead of it.
func rise(stubs []api.Stub) bool {
	for i := range len(stubs) - 1 {
		if stubs[i].Key >= stubs[i+1].Key {
			return false
		}
	}
	return true
}
