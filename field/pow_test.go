package field_test

import (
	"math/big"
	"testing"

	"conclave/api"
	"conclave/field"
)

// plainPow: a to the whole number e, by the library.
func plainPow(a, e api.Word) api.Word {
	return wordOf(new(big.Int).Exp(bigOf(a), bigOf(e), primeP()))
}

// exponents: 0 on, at the primes, at limbs, at the end of a word.
func exponents() []api.Word {
	es := []api.Word{zero, one, two, {3}, {4}, {full}, {0, 1}, {1, 1}, {0, 0, 1}, {0, 0, 0, 1}, {0, 0, 0, 1 << 63}, ones}
	for _, d := range []int64{-2, -1, 0, 1} {
		es = append(es, near(primeP(), d), near(primeL(), d), near(power(255), d), near(power(256), d-2))
	}
	return es
}

// P401: Pow, of edges and of drawn words to edges and to drawn ones.
func TestPow(t *testing.T) {
	r := source()
	es := exponents()
	for range 20 {
		es = append(es, draw(r))
	}
	bases := append(fewEdges(), api.Word{3}, api.Word{19}, draw(r), draw(r), draw(r), wordOf(power(254)), near(power(256), -38))
	for _, a := range bases {
		for _, e := range es {
			same(t, "Pow", field.Pow(a, e), plainPow(a, e), a, e)
		}
	}
}

// P401: to the 0 all are 1, 0 and P among them; 0 to others is 0.
func TestPowOfNought(t *testing.T) {
	for _, a := range some(50) {
		same(t, "Pow", field.Pow(a, zero), one, a, zero)
	}
	for _, a := range []api.Word{zero, field.P(), near(power(256), -38)} {
		for _, e := range exponents() {
			if e != zero {
				same(t, "Pow", field.Pow(a, e), zero, a, e)
			}
		}
	}
}

// P401: powers are repeated products.
func TestPowersAreProducts(t *testing.T) {
	for _, a := range fewEdges() {
		p := one
		for n := range uint64(40) {
			same(t, "Pow", field.Pow(a, api.Word{n}), p, a, api.Word{n})
			p = field.Mul(p, a)
		}
	}
}

// P401, P404: Inv times the number is 1; 0 of 0, P and twice P.
func TestInv(t *testing.T) {
	for _, a := range some(300) {
		got := field.Inv(a)
		want := new(big.Int).ModInverse(bigOf(a), primeP())
		if want == nil {
			same(t, "Inv", got, zero, a)
			continue
		}
		same(t, "Inv", got, wordOf(want), a)
		same(t, "Mul with Inv", field.Mul(a, got), one, a)
	}
	for _, a := range []api.Word{zero, field.P(), near(power(256), -38)} {
		same(t, "Inv", field.Inv(a), zero, a)
	}
	same(t, "Inv", field.Inv(one), one)
	same(t, "Inv", field.Inv(near(primeP(), -1)), near(primeP(), -1))
}

// P401, P404: Sqrt by the library: whether there is a root, and which one.
func TestSqrt(t *testing.T) {
	roots, none := 0, 0
	for _, a := range some(400) {
		got, ok := field.Sqrt(a)
		want := new(big.Int).ModSqrt(new(big.Int).Mod(bigOf(a), primeP()), primeP())
		if want == nil {
			none++
			if ok || got != zero {
				t.Fatalf("Sqrt of %x, which has none: %x, %v", a, got, ok)
			}
			continue
		}
		roots++
		if want.Bit(0) == 1 {
			want.Sub(primeP(), want)
		}
		if !ok {
			t.Fatalf("Sqrt of %x: false", a)
		}
		same(t, "Sqrt", got, wordOf(want), a)
	}
	if roots < 100 || none < 100 {
		t.Errorf("only %d with a root, %d without", roots, none)
	}
}

// P401: of 0, of P and of twice P the root is 0, and there is one.
func TestSqrtOfNought(t *testing.T) {
	for _, a := range []api.Word{zero, field.P(), near(power(256), -38)} {
		if r, ok := field.Sqrt(a); r != zero || !ok {
			t.Errorf("Sqrt of %x: %x, %v", a, r, ok)
		}
	}
}

// P401, P404: squares have roots, the number or its negative, the even one.
func TestSqrtOfSquares(t *testing.T) {
	for _, a := range some(300) {
		x := new(big.Int).Mod(bigOf(a), primeP())
		if x.Bit(0) == 1 {
			x.Sub(primeP(), x)
		}
		r, ok := field.Sqrt(field.Mul(a, a))
		if !ok || r[0]&1 == 1 {
			t.Fatalf("Sqrt of the square of %x: %x, %v", a, r, ok)
		}
		same(t, "Sqrt of the square", r, wordOf(x), a)
	}
}

// P401: a square times 2, which has no root, has none either.
func TestSqrtOfNoSquares(t *testing.T) {
	for _, a := range some(300) {
		square := field.Mul(a, a)
		if square == zero {
			continue
		}
		if r, ok := field.Sqrt(field.Mul(two, square)); ok || r != zero {
			t.Fatalf("Sqrt of twice the square of %x: %x, %v", a, r, ok)
		}
	}
}
