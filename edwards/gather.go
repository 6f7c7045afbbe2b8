package edwards

import "iter"

const (
	group   = 4          // bits that are gone through in one step
	choices = 1 << group // of a group's points
)

// gather adds up points. The bits are groups of four, each of which says which of the four points are added; what the higher groups came to is doubled so many times from one group to the next lower one.
func gather(times int, bits []bool, points ...Point) Point {
	ready := choicesOf(points...)
	s := sumOf(Zero())
	for which := range groups(bits) {
		s.double(times)
		if which != 0 {
			s.add(ready[which])
		}
	}
	return s.point()
}

// groups goes through the bits backward, and tells of each group which of its bits are set: the lowest counts 1, the highest 8.
func groups(bits []bool) iter.Seq[int] {
	return func(yield func(int) bool) {
		which := 0
		for i := len(bits) - 1; i >= 0; i-- {
			which *= 2
			if bits[i] {
				which++
			}
			if i%group == 0 {
				if !yield(which) {
					return
				}
				which = 0
			}
		}
	}
}

// choicesOf answers the sum of each choice of the points, at the place that groups tells of it.
func choicesOf(points ...Point) []addend {
	sums := make([]Point, 0, choices)
	sums = append(sums, Zero())
	for _, p := range points {
		for _, s := range sums {
			sums = append(sums, Add(s, p))
		}
	}
	ready := make([]addend, 0, choices)
	for _, s := range sums {
		ready = append(ready, addendOf(s))
	}
	return ready
}

// interleave answers the bits of two rows of one length by turns, so that one group has two bits of each.
func interleave(a, b []bool) []bool {
	out := make([]bool, 0, len(a)+len(b))
	for i := range a {
		out = append(out, a[i], b[i])
	}
	return out
}
