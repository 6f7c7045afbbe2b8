package scalar

import (
	"math/big"
	"testing"
)

// P3.1: the order is 2^252 + 27742317777372353535851937790883648493.
func TestOrder(t *testing.T) {
	want, _ := new(big.Int).SetString("27742317777372353535851937790883648493", 10)
	want.Add(want, new(big.Int).Lsh(big.NewInt(1), 252))
	got := new(big.Int)
	for i := len(order) - 1; i >= 0; i-- {
		got.Lsh(got, 64)
		got.Add(got, new(big.Int).SetUint64(order[i]))
	}
	if got.Cmp(want) != 0 {
		t.Errorf("%x", order)
	}
}

// P3.1: both halves of a wide number are held against a narrow one.
func TestIs(t *testing.T) {
	for i := range len(wide{}) {
		w := order.wide()
		if !w.is(order) {
			t.Fatal("the order is not itself")
		}
		w[i]++
		if w.is(order) {
			t.Error("another word", i)
		}
	}
}

func (n narrow) wide() wide {
	var w wide
	copy(w[:], n[:])
	return w
}

// P3.1: a reckoning may be asked again, and used again.
func TestModuloAgain(t *testing.T) {
	var r reckoning
	for _, b := range [][]byte{{1, 2, 3}, {9}, {}} {
		r.load(b...)
		for range 2 {
			if got := r.modulo(); got != narrowOf(b...) {
				t.Errorf("%x: %x", b, got)
			}
		}
	}
}
