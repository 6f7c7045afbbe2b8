package wire

// rest is what is left of a reader's bytes.
type rest []byte

// take answers the next n bytes, which are not left any more.
func (s *rest) take(n int) []byte {
	must(n <= len(*s))
	next := (*s)[:n]
	*s = (*s)[n:]
	return next
}

// none says whether nothing is left.
func (s rest) none() bool {
	return len(s) == 0
}
