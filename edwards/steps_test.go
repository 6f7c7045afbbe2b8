package edwards

import (
	"slices"
	"testing"

	"buttress/field"
)

func small(n uint64) field.Elem { return field.Elem{n} }

// P4.1: the curve's number and the base are what the chapter says, in right limbs.
func TestTables(t *testing.T) {
	if !field.Same(field.Mul(d, small(121666)), field.Neg(small(121665))) {
		t.Errorf("%x", d)
	}
	if !field.Same(field.Mul(base.Y, small(5)), small(4)) || field.Odd(base.X) || base.Z != field.One() || !On(base) {
		t.Errorf("%x", base)
	}
	if !rightLimbs(d) {
		t.Error("limbs")
	}
}

// P4.4: the bits are gone through backward in groups of four, which may be left before their end.
func TestGroups(t *testing.T) {
	bits := make([]bool, 12)
	bits[0], bits[6], bits[9], bits[11] = true, true, true, true
	if got := slices.Collect(groups(bits)); !slices.Equal(got, []int{10, 4, 1}) {
		t.Error(got)
	}
	for which := range groups(bits) {
		if which == 4 {
			break
		}
		if which == 1 {
			t.Error("behind the end")
		}
	}
	if got := slices.Collect(groups(nil)); len(got) != 0 {
		t.Error(got)
	}
}

// P4.4: a choice stands at the place whose bits say which points are in it.
func TestChoices(t *testing.T) {
	points := []Point{Base(), Double(Base()), Neg(Base()), Double(Double(Base()))}
	for which, ready := range choicesOf(points...) {
		want := Zero()
		for k, p := range points {
			if which>>k&1 == 1 {
				want = Add(want, p)
			}
		}
		s := sumOf(Base())
		s.add(ready)
		if !Same(s.point(), Add(want, Base())) {
			t.Error(which)
		}
	}
}

// P4.4: two rows of bits stand by turns in one.
func TestInterleave(t *testing.T) {
	if got := interleave([]bool{true, false, true}, []bool{false, false, true}); !slices.Equal(got, []bool{true, false, false, false, true, true}) {
		t.Error(got)
	}
}
