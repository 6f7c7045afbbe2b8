package field

import (
	"math/big"
	"testing"
)

func whole(a Elem) *big.Int {
	n := new(big.Int)
	for i := len(a) - 1; i >= 0; i-- {
		n.Lsh(n, limbBits)
		n.Add(n, new(big.Int).SetUint64(a[i]))
	}
	return n
}

// P2.2: four times p is 0, and no right element has a limb above its limbs.
func TestFourTimesP(t *testing.T) {
	p := new(big.Int).Sub(new(big.Int).Lsh(big.NewInt(1), 255), big.NewInt(19))
	if whole(fourTimesP).Cmp(new(big.Int).Mul(p, big.NewInt(4))) != 0 {
		t.Errorf("%x", fourTimesP)
	}
	for i, limb := range fourTimesP {
		if limb < 1<<52-1 {
			t.Error(i)
		}
	}
}

// P2.4: the root of -1 is one.
func TestRootOfMinusOne(t *testing.T) {
	p := new(big.Int).Sub(new(big.Int).Lsh(big.NewInt(1), 255), big.NewInt(19))
	r := whole(rootOfMinusOne)
	if r.Mul(r, r).Add(r, big.NewInt(1)).Mod(r, p).Sign() != 0 {
		t.Errorf("%x", rootOfMinusOne)
	}
}
