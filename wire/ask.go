package wire

// word answers the number of the next so many bytes, the highest first.
func (r *Reader) word(size int) uint64 {
	var n uint64
	for _, b := range r.take(size) {
		n = n<<8 | uint64(b)
	}
	return n
}

// count answers the next number, which must be from 0 to most.
func (r *Reader) count(most int) int {
	n := int(r.word(numberSize))
	must(0 <= n && n <= most)
	return n
}

// bytes answers so many next bytes as the number ahead of them says, which must be from 0 to most.
func (r *Reader) bytes(most int) []byte {
	return Join(r.take(r.count(most))) // a copy: who keeps a few bytes does not keep all that the reader had
}

// must panics, unless what is asked for is there.
func must(there bool) {
	if !there {
		panic("wire: what is asked for is not there")
	}
}

// try answers what a call tells of n. Where that panics, it tells nothing, and the reader is from then on as one that nobody made.
func try[T any](r *Reader, call func(int) T, n int) (told T) {
	if !r.Good() {
		return told
	}
	defer func() {
		if recover() != nil {
			*r = Reader{}
		}
	}()
	return call(n)
}
