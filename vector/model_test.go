package vector_test

import (
	"math"
	"math/rand"

	"buttress/api"
)

// of answers the row of dots whose clients and numbers stand one behind the other.
func of(numbers ...int) []api.Dot {
	var out []api.Dot
	for k := 0; k+1 < len(numbers); k += 2 {
		out = append(out, api.Dot{Client: numbers[k], Seq: numbers[k+1]})
	}
	return out
}

// isDot says by the chapter's words whether a dot is right.
func isDot(d api.Dot) bool {
	return 1 <= d.Client && d.Client <= 8 && 1 <= d.Seq && d.Seq <= 1<<30
}

// isVector says by the chapter's words whether a row is a vector: each two of it are held against each other.
func isVector(v []api.Dot) bool {
	for i, d := range v {
		if !isDot(d) {
			return false
		}
		for _, ahead := range v[:i] {
			if ahead.Client >= d.Client {
				return false
			}
		}
	}
	return true
}

// hasDot says by the chapter's words whether a vector has a right dot.
func hasDot(v []api.Dot, d api.Dot) bool {
	for _, x := range v {
		if x.Client == d.Client && x.Seq >= d.Seq {
			return true
		}
	}
	return false
}

// edges are dots about the bounds of right ones, and far off them.
func edges() []api.Dot {
	var out []api.Dot
	for _, client := range []int{math.MinInt, -1, 0, 1, 2, 7, 8, 9, math.MaxInt} {
		for _, seq := range []int{math.MinInt, -1, 0, 1, 2, 1<<30 - 1, 1 << 30, 1<<30 + 1, 1 << 32, math.MaxInt} {
			out = append(out, api.Dot{Client: client, Seq: seq})
		}
	}
	return out
}

// small are all vectors of the clients 1, 3 and 8, up to the number 2 of each.
func small() [][]api.Dot {
	var out [][]api.Dot
	for a := range 3 {
		for b := range 3 {
			for c := range 3 {
				out = append(out, vectorOf(map[int]int{1: a, 3: b, 8: c}))
			}
		}
	}
	return out
}

// vectorOf answers the vector of so many writes of each client.
func vectorOf(seqs map[int]int) []api.Dot {
	var out []api.Dot
	for client := 1; client <= 8; client++ {
		if seqs[client] > 0 {
			out = append(out, api.Dot{Client: client, Seq: seqs[client]})
		}
	}
	return out
}

// great is a vector that r chooses, of any clients, none or all, with numbers up to the greatest.
func great(r *rand.Rand) []api.Dot {
	seqs := map[int]int{}
	for client := 1; client <= 8; client++ {
		if r.Intn(3) > 0 {
			seqs[client] = 1 + r.Intn(1<<r.Intn(31))
		}
	}
	return vectorOf(seqs)
}

// joined answers by the chapter's words what vectors are together.
func joined(rows ...[]api.Dot) []api.Dot {
	seqs := map[int]int{}
	for _, v := range rows {
		for _, d := range v {
			seqs[d.Client] = max(seqs[d.Client], d.Seq)
		}
	}
	return vectorOf(seqs)
}

// wrong are rows that are no vectors.
func wrong() [][]api.Dot {
	out := [][]api.Dot{
		of(2, 1, 1, 1),             // clients that fall
		of(1, 1, 1, 1),             // one twice
		of(1, 1, 1, 2),             // one twice, the number rising
		of(8, 5, 8, 5),             // the last one twice
		of(1, 3, 4, 1, 3, 2),       // the last one falls
		of(4, 3, 1, 3, 5, 3),       // the first one is too great
		of(1, 1, 2, 1, 2, 1, 3, 1), // one twice in the middle
		of(1, 1, 2, 0, 3, 1),       // a number of 0 in the middle
		of(0, 1, 1, 1),             // client 0 ahead
		of(1, 1, 9, 1),             // client 9 behind
		of(1, 1<<30+1, 2, 1),
		of(1, 1, 2, 1, 3, 1, 4, 1, 5, 1, 6, 1, 7, 1, 8, 1, 9, 1),
		of(1, 1, 2, 1, 3, 1, 4, 1, 5, 1, 6, 1, 7, 1, 8, 1, 8, 1),
		make([]api.Dot, 100000),
	}
	for _, d := range edges() {
		if !isDot(d) {
			out = append(out, []api.Dot{d})
		}
	}
	return out
}
