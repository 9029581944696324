package field_test

import (
	"math/big"
	"testing"

	"conclave/api"
	"conclave/field"
)

// P403: Ladd, Lmul modulo L, of all words.
func TestOrder(t *testing.T) {
	l := primeL()
	pairs(func(a, b api.Word) {
		x, y := bigOf(a), bigOf(b)
		same(t, "Ladd", field.Ladd(a, b), modulo(new(big.Int).Add(x, y), l), a, b)
		same(t, "Lmul", field.Lmul(a, b), modulo(new(big.Int).Mul(x, y), l), a, b)
	})
}

// P403: sums and products just at L, or beside it.
func TestBesideL(t *testing.T) {
	l := primeL()
	r := source()
	for range 2000 {
		a := draw(r)
		x := new(big.Int).Mod(bigOf(a), l)
		if x.Sign() == 0 {
			continue
		}
		inverse := new(big.Int).ModInverse(x, l)
		for _, d := range []int64{-1, 0, 1} {
			y := new(big.Int).Mul(inverse, big.NewInt(d))
			same(t, "Lmul", field.Lmul(a, modulo(y, l)), modulo(big.NewInt(d), l), a)
			y.Sub(big.NewInt(d), x)
			same(t, "Ladd", field.Ladd(a, modulo(y, l)), modulo(big.NewInt(d), l), a)
		}
	}
}
