package word_test

import (
	"testing"

	"conclave/api"
	"conclave/word"
)

// triples: some edges with all, and drawn ones.
func triples(f func(a, b, c api.Word)) {
	for _, a := range edges() {
		for _, b := range edges() {
			for _, c := range []api.Word{zero, one, ones, least, word31()} {
				f(a, b, c)
			}
		}
	}
	r := source()
	for range 100000 {
		f(draw(r), draw(r), draw(r))
	}
}

// P106: sums and products make a ring.
func TestRing(t *testing.T) {
	triples(func(a, b, c api.Word) {
		same(t, "a + b = b + a", word.Add(a, b), word.Add(b, a), a, b)
		same(t, "(a + b) + c = a + (b + c)", word.Add(word.Add(a, b), c), word.Add(a, word.Add(b, c)), a, b, c)
		same(t, "a + 0 = a", word.Add(a, zero), a, a)
		same(t, "a + (0 - a) = 0", word.Add(a, word.Sub(zero, a)), zero, a)
		same(t, "(a - b) + b = a", word.Add(word.Sub(a, b), b), a, a, b)
		same(t, "a b = b a", word.Mul(a, b), word.Mul(b, a), a, b)
		same(t, "(a b) c = a (b c)", word.Mul(word.Mul(a, b), c), word.Mul(a, word.Mul(b, c)), a, b, c)
		same(t, "a 1 = a", word.Mul(a, one), a, a)
		same(t, "a (b + c) = a b + a c", word.Mul(a, word.Add(b, c)), word.Add(word.Mul(a, b), word.Mul(a, c)), a, b, c)
	})
}

// P106: powers are repeated products.
func TestPowersAreProducts(t *testing.T) {
	for _, a := range edges() {
		p := one
		for n := range uint64(70) {
			same(t, "Exp", word.Exp(a, api.Word{n}), p, a, api.Word{n})
			p = word.Mul(p, a)
		}
	}
}

// P106: quotient times divisor and what is left make the number; what is left is below the divisor.
func TestPartsMakeTheWhole(t *testing.T) {
	pairs(func(a, b api.Word) {
		if word.Zero(b) {
			return
		}
		q, r := word.Div(a, b), word.Mod(a, b)
		same(t, "q b + r", word.Add(word.Mul(q, b), r), a, a, b)
		if word.Cmp(r, b) >= 0 {
			t.Fatalf("Mod of %x, %x: %x", a, b, r)
		}
		if word.Cmp(word.Mul(q, b), a) > 0 {
			t.Fatalf("Div of %x, %x: %x", a, b, q)
		}
		same(t, "signed q b + r", word.Add(word.Mul(word.Sdiv(a, b), b), word.Smod(a, b)), a, a, b)
	})
}

// P106: shifting is multiplying by a power of two, or dividing by it.
func TestShiftsAreProducts(t *testing.T) {
	for _, x := range some() {
		for n := range uint64(256) {
			by := api.Word{n}
			p := word.Exp(api.Word{2}, by)
			same(t, "Shl", word.Shl(by, x), word.Mul(x, p), by, x)
			same(t, "Shr", word.Shr(by, x), word.Div(x, p), by, x)
		}
	}
}
