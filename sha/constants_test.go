package sha_test

import (
	"math"
	"math/big"
	"testing"

	"conclave/sha"
)

// primes: the first n prime numbers.
func primes(n int) []int64 {
	var all []int64
	for p := int64(2); len(all) < n; p++ {
		if big.NewInt(p).ProbablyPrime(10) { // exact below 2^64
			all = append(all, p)
		}
	}
	return all
}

// rootBits: the first 64 bits behind the point of p's root of that degree.
//
// The greatest whole number whose power is at most p shifted by 64 bits for each factor is the root shifted by 64 bits; it is found bit by bit.
func rootBits(p int64, degree int) uint64 {
	whole := new(big.Int).Lsh(big.NewInt(p), uint(64*degree))
	root := new(big.Int)
	for bit := 80; bit >= 0; bit-- {
		next := new(big.Int).SetBit(root, bit, 1)
		if new(big.Int).Exp(next, big.NewInt(int64(degree)), nil).Cmp(whole) <= 0 {
			root = next
		}
	}
	return new(big.Int).And(root, new(big.Int).SetUint64(math.MaxUint64)).Uint64()
}

func sameWord(t *testing.T, what string, i int, got, want uint64) {
	t.Helper()
	if got != want {
		t.Errorf("%s(%d): %016x, not %016x", what, i, got, want)
	}
}

// P302, example 1, and the last of each.
func TestConstantsKnown(t *testing.T) {
	sameWord(t, "K", 0, sha.K(0), 0x428a2f98d728ae22)
	sameWord(t, "K", 1, sha.K(1), 0x7137449123ef65cd)
	sameWord(t, "K", 79, sha.K(79), 0x6c44198c4a475817)
	sameWord(t, "H", 0, sha.H(0), 0x6a09e667f3bcc908)
	sameWord(t, "H", 7, sha.H(7), 0x5be0cd19137e2179)
}

// P302: all of K and H are the bits of the prime numbers' roots.
func TestConstantsRoots(t *testing.T) {
	for i, p := range primes(80) {
		sameWord(t, "K", i, sha.K(i), rootBits(p, 3))
		if i < 8 {
			sameWord(t, "H", i, sha.H(i), rootBits(p, 2))
		}
	}
}

// P302: 0 of an index below 0 or beyond the last, to the ends of its type.
func TestConstantsBeyond(t *testing.T) {
	for n := range 300 {
		for _, i := range []int{-1 - n, 80 + n, math.MinInt + n, math.MaxInt - n} {
			sameWord(t, "K", i, sha.K(i), 0)
		}
		for _, i := range []int{-1 - n, 8 + n, math.MinInt + n, math.MaxInt - n} {
			sameWord(t, "H", i, sha.H(i), 0)
		}
	}
	for shift := 8; shift < 63; shift++ {
		i := 1<<shift | 1 // of its low bits alone there would be a constant
		sameWord(t, "K", i, sha.K(i), 0)
		sameWord(t, "H", i, sha.H(i), 0)
	}
}

// P302, rule 5: asked again, behind hashes too, the constants are the same.
func TestConstantsStay(t *testing.T) {
	var k [80]uint64
	for i := range k {
		k[i] = sha.K(i)
	}
	sha.Sum(make([]byte, 1000))
	for i := range k {
		sameWord(t, "K asked again", i, sha.K(i), k[i])
	}
}
