package vector_test

import (
	"math/rand"
	"slices"
	"testing"

	"buttress/api"
	"buttress/vector"
)

// all is the vector of all eight clients, with as many writes as there may be.
func all() []api.Dot {
	const most = 1 << 30
	return of(1, most, 2, most, 3, most, 4, most, 5, most, 6, most, 7, most, 8, most)
}

// P7.1: rows of no dots, of one and of eight are vectors.
func TestRight(t *testing.T) {
	for _, v := range append(small(), nil, []api.Dot{}, all()[:0], all(), of(1, 1), of(8, 1), of(1, 1<<30), of(8, 1<<30), of(1, 9, 2, 8, 3, 7), of(7, 1, 8, 1<<30)) {
		if !vector.Right(v) {
			t.Errorf("%v: no vector", v)
		}
	}
	for _, v := range wrong() {
		if vector.Right(v) {
			t.Errorf("%v: a vector", v[:min(len(v), 9)])
		}
	}
}

// P7.1: a row is a vector by each of its dots and each two of them, those about the bounds included.
func TestRightRows(t *testing.T) {
	dots := edges()
	for _, a := range dots {
		for _, b := range dots {
			for _, v := range [][]api.Dot{{a}, {a, b}, {{Client: 1, Seq: 5}, a, b}, {a, {Client: 4, Seq: 1}, b}, {a, b, {Client: 8, Seq: 1 << 30}}} {
				if got := vector.Right(v); got != isVector(v) {
					t.Fatalf("%v: %v", v, got)
				}
			}
		}
	}
}

// P7.1: a vector has of each of its clients all up to that number, and of others none; what is not right it has not.
func TestHas(t *testing.T) {
	r := rand.New(rand.NewSource(71))
	vectors := append(small(), nil, all(), all()[:7], all()[1:])
	for range 100 {
		vectors = append(vectors, great(r))
	}
	for _, v := range vectors {
		dots := edges()
		for client := 0; client <= 9; client++ {
			for _, seq := range []int{0, 1, 2, 3, 1000} {
				dots = append(dots, api.Dot{Client: client, Seq: seq})
			}
		}
		for _, d := range v {
			dots = append(dots, d, api.Dot{Client: d.Client, Seq: d.Seq - 1}, api.Dot{Client: d.Client, Seq: d.Seq + 1})
		}
		for _, d := range dots {
			if got := vector.Has(v, d); got != (isDot(d) && hasDot(v, d)) {
				t.Fatalf("%v, %v: %v", v, d, got)
			}
		}
	}
}

// P7.1: a row that is no vector has nothing, not even what stands in it.
func TestHasOfWrong(t *testing.T) {
	for _, v := range wrong() {
		for _, d := range append(slices.Clone(v[:min(len(v), 9)]), api.Dot{Client: 1, Seq: 1}, api.Dot{Client: 8, Seq: 1}, api.Dot{}) {
			if vector.Has(v, d) {
				t.Errorf("%v has %v", v[:min(len(v), 9)], d)
			}
		}
	}
}

// covers says by the chapter's words whether a vector has each dot of another one.
func covers(a, b []api.Dot) bool {
	return !slices.ContainsFunc(b, func(d api.Dot) bool { return !hasDot(a, d) })
}

// P7.1: a vector covers those of which it has each dot: of all pairs of small ones, and of great ones and their neighbours.
func TestCovers(t *testing.T) {
	r := rand.New(rand.NewSource(72))
	vectors := append(small(), all())
	for range 30 {
		v := great(r)
		vectors = append(vectors, v)
		for i := range v {
			less, more := slices.Clone(v), slices.Clone(v)
			less[i].Seq = max(1, less[i].Seq-1)
			more[i].Seq = min(1<<30, more[i].Seq+1)
			vectors = append(vectors, less, more, slices.Delete(slices.Clone(v), i, i+1))
		}
	}
	for _, a := range vectors {
		for _, b := range vectors {
			if got := vector.Covers(a, b); got != covers(a, b) {
				t.Fatalf("%v, %v: %v", a, b, got)
			}
		}
	}
	if !vector.Covers(nil, nil) || !vector.Covers(nil, []api.Dot{}) || !vector.Covers([]api.Dot{}, nil) {
		t.Error("no dots")
	}
}

// P7.1: what is no vector covers nothing, and nothing covers it.
func TestCoversOfWrong(t *testing.T) {
	for _, v := range wrong() {
		for _, other := range [][]api.Dot{nil, {}, of(1, 1), all(), v} {
			if vector.Covers(v, other) || vector.Covers(other, v) {
				t.Errorf("%v, %v", v[:min(len(v), 9)], other[:min(len(other), 9)])
			}
		}
	}
}

// The chapter's examples.
func TestExamples(t *testing.T) {
	v := vector.Join(of(1, 3, 4, 1), of(1, 2, 2, 7))
	if !slices.Equal(v, of(1, 3, 2, 7, 4, 1)) {
		t.Error(v)
	}
	if !vector.Has(v, api.Dot{Client: 1, Seq: 3}) || vector.Has(v, api.Dot{Client: 1, Seq: 4}) || vector.Has(v, api.Dot{Client: 3, Seq: 1}) {
		t.Error("has")
	}
	if got := vector.Join(of(2, 1, 1, 1)); len(got) != 0 {
		t.Error(got)
	}
}
