package sha

import (
	"math/big"
	"testing"
)

func firstPrimes(n int) []int64 {
	var out []int64
	for p := int64(2); len(out) < n; p++ {
		if big.NewInt(p).ProbablyPrime(0) {
			out = append(out, p)
		}
	}
	return out
}

// isFraction says whether word is the fraction of the power-th root of the prime: with the root's whole part before it, it is the greatest number whose power is not over the prime.
func isFraction(word uint64, prime, power int64) bool {
	whole := int64(1)
	for pow(big.NewInt(whole+1), power).Cmp(big.NewInt(prime)) <= 0 {
		whole++
	}
	root := new(big.Int).Lsh(big.NewInt(whole), 64)
	root.Add(root, new(big.Int).SetUint64(word))
	limit := new(big.Int).Lsh(big.NewInt(prime), uint(64*power))
	next := new(big.Int).Add(root, big.NewInt(1))
	return pow(root, power).Cmp(limit) <= 0 && pow(next, power).Cmp(limit) > 0
}

func pow(x *big.Int, power int64) *big.Int {
	return new(big.Int).Exp(x, big.NewInt(power), nil)
}

// P1.1: the constants are what the chapter says they are.
func TestConstants(t *testing.T) {
	for i, p := range firstPrimes(rounds) {
		if !isFraction(cubeRoots[i], p, 3) {
			t.Errorf("cube root of %d: %x", p, cubeRoots[i])
		}
		if i < len(squareRoots) && !isFraction(squareRoots[i], p, 2) {
			t.Errorf("square root of %d: %x", p, squareRoots[i])
		}
	}
}
