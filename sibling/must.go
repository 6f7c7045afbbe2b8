package sibling

import "buttress/api"

// must panics, unless what a set must be is so.
func must(so bool) {
	if !so {
		panic("sibling: what a set must be is not so")
	}
}

// try answers what the call tells. Where that panics, it tells nothing, and ErrShape.
func try[T any](call func() T) (told T, err api.Errno) {
	defer func() {
		if recover() != nil {
			err = api.ErrShape
		}
	}()
	return call(), api.OK
}
