package word_test

import (
	"math/big"
	"testing"

	"conclave/api"
	"conclave/word"
)

// P102: Add, Sub, Mul modulo 2^256.
func TestSums(t *testing.T) {
	pairs(func(a, b api.Word) {
		x, y := bigOf(a), bigOf(b)
		same(t, "Add", word.Add(a, b), wordOf(new(big.Int).Add(x, y)), a, b)
		same(t, "Sub", word.Sub(a, b), wordOf(new(big.Int).Sub(x, y)), a, b)
		same(t, "Mul", word.Mul(a, b), wordOf(new(big.Int).Mul(x, y)), a, b)
	})
}

// P102: what goes beyond 2^256 is lost, and carries go through all limbs.
func TestSumsEdges(t *testing.T) {
	same(t, "Sub", word.Sub(zero, one), ones, zero, one)
	same(t, "Add", word.Add(ones, one), zero, ones, one)
	same(t, "Add", word.Add(api.Word{full, full, full}, one), power(192))
	same(t, "Sub", word.Sub(power(192), one), api.Word{full, full, full})
	same(t, "Mul", word.Mul(ones, ones), one, ones, ones)
	same(t, "Mul", word.Mul(power(128), power(128)), zero)
	same(t, "Mul", word.Mul(power(128), power(127)), least)
	same(t, "Mul", word.Mul(ones, zero), zero)
}

// P102: Exp modulo 2^256, against math/big.
func TestExp(t *testing.T) {
	ask := func(a, b api.Word) {
		same(t, "Exp", word.Exp(a, b), wordOf(new(big.Int).Exp(bigOf(a), bigOf(b), whole)), a, b)
	}
	for _, a := range edges() {
		for _, b := range edges() {
			ask(a, b)
		}
	}
	r := source()
	for range 2000 {
		ask(draw(r), draw(r))
	}
}

// P102: Exp where base or exponent is 0, and around 2^256.
func TestExpEdges(t *testing.T) {
	for _, x := range []struct{ a, b, want api.Word }{
		{zero, zero, one}, {zero, one, zero}, {zero, ones, zero}, {ones, zero, one}, {one, ones, one},
		{api.Word{2}, api.Word{255}, least}, {api.Word{2}, api.Word{256}, zero}, {api.Word{2}, power(64), zero},
		{ones, ones, ones}, {ones, api.Word{2}, one}, {api.Word{3}, power(254), one}, {api.Word{10}, api.Word{18}, api.Word{1000000000000000000}},
	} {
		same(t, "Exp", word.Exp(x.a, x.b), x.want, x.a, x.b)
	}
}
