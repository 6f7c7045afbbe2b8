package merkle

import (
	"strings"

	"buttress/api"
)

const signs = 8*api.Digest - 2 // of a way: the first two bits of a key's digest tell its shard

// isShard says whether a shard has that number.
func isShard(n int) bool {
	return 0 <= n && n < api.Shards
}

// isKey says whether a key may be that long.
func isKey(key string) bool {
	return 1 <= len(key) && len(key) <= api.MaxKey
}

// isPath says whether a way may begin with the text.
func isPath(text string) bool {
	return len(text) <= signs && strings.Trim(text, "01") == ""
}
