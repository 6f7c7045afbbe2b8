package field

// rootOfMinusOne times itself is -1.
var rootOfMinusOne = Elem{0x61b274a0ea0b0, 0xd5a5fc8f189d, 0x7ef5e9cbd0c60, 0x78595a6804c9e, 0x2b8324804fc1d}

// powers answers a step that goes on from a: what is reckoned is squared so many times, then multiplied. The bits of a's power thus shift left, and others are added to them.
func powers(a Elem) func(times int, by Elem) Elem {
	power := a
	return func(times int, by Elem) Elem {
		for range times {
			power = Square(power)
		}
		power = Mul(power, by)
		return power
	}
}

// manyOnes answers such a step, which is at a to the power 2^250 - 1: 250 bits, each 1.
func manyOnes(a Elem) func(times int, by Elem) Elem {
	step := powers(a)
	two := step(1, a)
	step(2, two)
	five := step(1, a)
	ten := step(5, five)
	twenty := step(10, ten)
	step(20, twenty)
	fifty := step(10, ten)
	hundred := step(50, fifty)
	step(100, hundred)
	step(50, fifty)
	return step
}

// guessRoot answers u v^3 (u v^7)^((p-5)/8). Its square, times v, is u times a number that to the power 4 is 1, or 0 where u or v is.
func guessRoot(u, v Elem) Elem {
	cube := Mul(Square(v), v)
	seventh := Mul(Square(cube), v)
	base := Mul(u, seventh)
	step := manyOnes(base)
	power := step(2, base) // 2^252 - 4 + 1 is (p - 5) / 8
	return Mul(Mul(u, cube), power)
}
