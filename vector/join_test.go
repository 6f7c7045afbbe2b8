package vector_test

import (
	"math/rand"
	"slices"
	"testing"

	"buttress/api"
	"buttress/vector"
)

// P7.2: no rows, and rows of no dots, are together no dots; one row is itself.
func TestJoinFew(t *testing.T) {
	for i, rows := range [][][]api.Dot{nil, {}, {nil}, {{}}, {nil, {}, nil}, make([][]api.Dot, 1000)} {
		if got := vector.Join(rows...); len(got) != 0 {
			t.Error(i, got)
		}
	}
	for _, v := range append(small(), all(), of(8, 1), of(1, 1<<30)) {
		for i, rows := range [][][]api.Dot{{v}, {v, v}, {nil, v}, {v, {}}, {nil, v, nil, v, v}} {
			if got := vector.Join(rows...); !slices.Equal(got, v) {
				t.Error(i, v, got)
			}
		}
	}
}

// P7.2: a joined vector has just the dots that one of the rows has: of all three small ones.
func TestJoinSmall(t *testing.T) {
	vectors := small()
	for _, a := range vectors {
		for _, b := range vectors {
			for _, c := range vectors {
				got := vector.Join(a, b, c)
				if !vector.Right(got) {
					t.Fatalf("%v, %v, %v: %v", a, b, c, got)
				}
				for client := 1; client <= 8; client++ {
					for seq := 1; seq <= 3; seq++ {
						d := api.Dot{Client: client, Seq: seq}
						if hasDot(got, d) != (hasDot(a, d) || hasDot(b, d) || hasDot(c, d)) {
							t.Fatalf("%v, %v, %v: %v", a, b, c, got)
						}
					}
				}
			}
		}
	}
}

// P7.2: likewise of many great ones, of which each stands alone too.
func TestJoinGreat(t *testing.T) {
	r := rand.New(rand.NewSource(73))
	for range 2000 {
		var rows [][]api.Dot
		for range r.Intn(8) {
			rows = append(rows, great(r))
		}
		if got := vector.Join(rows...); !slices.Equal(got, joined(rows...)) {
			t.Fatalf("%v: %v", rows, got)
		}
	}
	var rows [][]api.Dot
	for k := range 10000 {
		rows = append(rows, of(1+k*5%8, 1+k*7919%10000))
	}
	if got := vector.Join(rows...); !slices.Equal(got, joined(rows...)) {
		t.Error("many rows:", got)
	}
}

// P7.2: where one of the rows is no vector, wherever it stands, there is none.
func TestJoinWrong(t *testing.T) {
	right := [][]api.Dot{of(1, 3, 4, 1), nil, all()}
	for _, v := range wrong() {
		if got := vector.Join(v); len(got) != 0 {
			t.Errorf("%v alone: %v", v[:min(len(v), 9)], got)
		}
		for at := range len(right) + 1 {
			if got := vector.Join(slices.Insert(slices.Clone(right), at, v)...); len(got) != 0 {
				t.Errorf("%v at %d: %v", v[:min(len(v), 9)], at, got)
			}
		}
		if got := vector.Join(v, v); len(got) != 0 {
			t.Errorf("%v twice: %v", v[:min(len(v), 9)], got)
		}
	}
}

// P7.2: dots are added in whatever order they come, and however often one client has one.
func TestAdd(t *testing.T) {
	for i, one := range []struct{ v, dots, want []api.Dot }{
		{nil, nil, nil},
		{nil, of(3, 2), of(3, 2)},
		{[]api.Dot{}, of(8, 1<<30), of(8, 1<<30)},
		{of(2, 5), nil, of(2, 5)},
		{of(2, 5), []api.Dot{}, of(2, 5)},
		{of(2, 5), of(2, 4), of(2, 5)},
		{of(2, 5), of(2, 5), of(2, 5)},
		{of(2, 5), of(2, 6), of(2, 6)},
		{of(2, 5), of(2, 7, 2, 6), of(2, 7)},
		{of(2, 5), of(3, 1), of(2, 5, 3, 1)},
		{of(2, 5), of(1, 1), of(1, 1, 2, 5)},
		{of(2, 5), of(3, 1, 1, 1), of(1, 1, 2, 5, 3, 1)},
		{of(2, 5), of(3, 1, 3, 2, 1, 1, 3, 1), of(1, 1, 2, 5, 3, 2)},
		{nil, of(8, 1, 7, 1, 6, 1, 5, 1, 4, 1, 3, 1, 2, 1, 1, 1), of(1, 1, 2, 1, 3, 1, 4, 1, 5, 1, 6, 1, 7, 1, 8, 1)},
		{all(), of(5, 1, 8, 1<<30, 1, 2), all()},
	} {
		if got := vector.Add(one.v, one.dots...); !slices.Equal(got, one.want) {
			t.Errorf("%d: %v", i, got)
		}
	}
	r := rand.New(rand.NewSource(74))
	for range 2000 {
		v := great(r)
		rows := [][]api.Dot{v}
		var dots []api.Dot
		for range r.Intn(12) {
			d := of(1+r.Intn(8), 1+r.Intn(1<<r.Intn(31)))
			rows, dots = append(rows, d), append(dots, d...)
		}
		if got := vector.Add(v, dots...); !slices.Equal(got, joined(rows...)) {
			t.Fatalf("%v, %v: %v", v, dots, got)
		}
	}
}

// P7.2: where v is no vector, or one of the dots is not right, wherever it stands, there is none.
func TestAddWrong(t *testing.T) {
	for _, v := range wrong() {
		for i, dots := range [][]api.Dot{nil, of(1, 1), of(8, 1<<30), of(3, 1, 2, 1)} {
			if got := vector.Add(v, dots...); len(got) != 0 {
				t.Errorf("%v, %d: %v", v[:min(len(v), 9)], i, got)
			}
		}
	}
	right := of(3, 1, 2, 1, 3, 1)
	for _, d := range edges() {
		for at := range len(right) + 1 {
			dots := slices.Insert(slices.Clone(right), at, d)
			for _, v := range [][]api.Dot{nil, of(2, 5), all()} {
				got := vector.Add(v, dots...)
				if !isDot(d) && len(got) != 0 || isDot(d) && !vector.Has(got, d) {
					t.Errorf("%v, %v: %v", v, dots, got)
				}
			}
		}
	}
}

// P7.3: Join hangs on no order and no grouping, and of a row twice it is that of it once.
func TestOrder(t *testing.T) {
	r := rand.New(rand.NewSource(75))
	for range 500 {
		a, b, c, d := great(r), great(r), great(r), great(r)
		want := vector.Join(a, b, c, d)
		for i, got := range [][]api.Dot{
			vector.Join(d, c, b, a),
			vector.Join(b, d, a, c),
			vector.Join(a, a, b, c, b, d, a),
			vector.Join(vector.Join(a, b), vector.Join(c, d)),
			vector.Join(vector.Join(vector.Join(d, a), c), b),
			vector.Join(b, vector.Join(c, vector.Join(a, d))),
			vector.Join(want, want),
			vector.Join(want, c),
			vector.Add(vector.Join(b, a, d), c...),
		} {
			if !slices.Equal(got, want) {
				t.Fatalf("%v, %v, %v, %v, %d: %v", a, b, c, d, i, got)
			}
		}
	}
}

// P7.3: what is joined covers all that were, and what covers these covers it; two that cover each other are the same.
func TestLeast(t *testing.T) {
	vectors := small()
	for _, a := range vectors {
		for _, b := range vectors {
			both := vector.Join(a, b)
			if !vector.Covers(both, a) || !vector.Covers(both, b) {
				t.Fatalf("%v, %v: %v", a, b, both)
			}
			for _, c := range vectors {
				if (vector.Covers(c, a) && vector.Covers(c, b)) != vector.Covers(c, both) {
					t.Fatalf("%v, %v, %v", a, b, c)
				}
			}
			if (vector.Covers(a, b) && vector.Covers(b, a)) != slices.Equal(a, b) {
				t.Fatalf("%v, %v", a, b)
			}
		}
	}
}

// R3, R4: no argument is changed or kept, what is told is new memory, and each time alike.
func TestMemory(t *testing.T) {
	a, b := of(1, 3, 4, 1), of(1, 2, 2, 7)
	full := all()
	spare := append(make([]api.Dot, 0, 40), a...)
	rows := [][]api.Dot{a, nil, b}
	for i, one := range []struct {
		call func() []api.Dot
		want []api.Dot
	}{
		{func() []api.Dot { return vector.Join(rows...) }, of(1, 3, 2, 7, 4, 1)},
		{func() []api.Dot { return vector.Join(a) }, of(1, 3, 4, 1)},
		{func() []api.Dot { return vector.Join(nil, a, a) }, of(1, 3, 4, 1)},
		{func() []api.Dot { return vector.Join(full) }, all()},
		{func() []api.Dot { return vector.Join(spare, of(5, 1)) }, of(1, 3, 4, 1, 5, 1)},
		{func() []api.Dot { return vector.Add(a) }, of(1, 3, 4, 1)},
		{func() []api.Dot { return vector.Add(nil, b...) }, of(1, 2, 2, 7)},
		{func() []api.Dot { return vector.Add(spare, b...) }, of(1, 3, 2, 7, 4, 1)},
		{func() []api.Dot { return vector.Add(full, a...) }, all()},
	} {
		first, second := one.call(), one.call()
		clear(first[:cap(first)])
		if !slices.Equal(second, one.want) || !slices.Equal(one.call(), one.want) {
			t.Errorf("%d: memory is shared", i)
		}
	}
	vector.Right(a)
	vector.Covers(a, b)
	vector.Has(b, a[0])
	if !slices.Equal(a, of(1, 3, 4, 1)) || !slices.Equal(b, of(1, 2, 2, 7)) || !slices.Equal(full, all()) || len(rows) != 3 || rows[1] != nil {
		t.Error("an argument was changed")
	}
	if !slices.Equal(spare[:40][2:], make([]api.Dot, 38)) {
		t.Error("what stands behind an argument was changed")
	}
	whole, one := vector.Join(rows...), vector.Add(a)
	clear(a)
	clear(b)
	if !slices.Equal(whole, of(1, 3, 2, 7, 4, 1)) || !slices.Equal(one, of(1, 3, 4, 1)) {
		t.Error("an argument was kept")
	}
}

func BenchmarkJoin(b *testing.B) {
	for b.Loop() {
		vector.Join(all(), all())
	}
}
