package edwards

import "buttress/field"

// limbEnd is what the limbs of right elements stay below.
const limbEnd = 1 << 52

// d is the curve's number, -121665 / 121666.
var d = field.Elem{0x34dca135978a3, 0x1a8283b156ebd, 0x5e7a26001c029, 0x739c663a03cbb, 0x52036cee2b6ff}

// base is the point that Base tells: its x would need a root each time.
var base = Point{
	X: field.Elem{0x62d608f25d51a, 0x412a4b4f6592a, 0x75b7171a4b31d, 0x1ff60527118fe, 0x216936d3cd6e5},
	Y: field.Elem{0x6666666666658, 0x4cccccccccccc, 0x1999999999999, 0x3333333333333, 0x6666666666666},
	Z: field.Elem{1},
	T: field.Elem{0x68ab3a5b7dda3, 0xeea2a5eadbb, 0x2af8df483c27e, 0x332b375274732, 0x67875f0fd78b7},
}

// rightLimbs says whether the elements are right.
func rightLimbs(elems ...field.Elem) bool {
	for _, e := range elems {
		for _, limb := range e {
			if limb >= limbEnd {
				return false
			}
		}
	}
	return true
}

// across answers the x, odd or not, which y is a pair of the curve with, if there is one: x x is (y y - 1) / (d y y + 1).
func across(y field.Elem, odd bool) (field.Elem, bool) {
	square := field.Square(y)
	x, ok := field.Root(field.Sub(square, field.One()), field.Add(field.Mul(d, square), field.One()))
	if !ok || !odd {
		return x, ok
	}
	if field.Zero(x) { // less 0 is 0, which is not odd
		return field.Elem{}, false
	}
	return field.Neg(x), true
}
