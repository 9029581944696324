package field_test

import (
	"testing"

	"conclave/api"
	"conclave/field"
	"conclave/word"
)

// arithmetic: what a field is made of.
type arithmetic struct {
	name     string
	prime    api.Word
	add, mul func(a, b api.Word) api.Word
}

func both() []arithmetic {
	return []arithmetic{{"P", field.P(), field.Add, field.Mul}, {"L", field.L(), field.Ladd, field.Lmul}}
}

// pow: by products alone, so that it serves both fields.
func (f arithmetic) pow(a, e api.Word) api.Word {
	p := one
	for i := 255; i >= 0; i-- {
		p = f.mul(p, p)
		if e[i/64]>>(i%64)&1 == 1 {
			p = f.mul(p, a)
		}
	}
	return p
}

// P404: sums and products hang on no order and no brackets, 0 and 1 change nothing, each has a negative, products go over sums; all answers are below the prime.
func TestFieldLaws(t *testing.T) {
	for _, f := range both() {
		laws := func(a, b, c api.Word) {
			sum, product := f.add(a, b), f.mul(a, b)
			if word.Cmp(sum, f.prime) >= 0 || word.Cmp(product, f.prime) >= 0 {
				t.Fatalf("%s: answers for %x, %x are not below it: %x, %x", f.name, a, b, sum, product)
			}
			same(t, "a + b = b + a, "+f.name, sum, f.add(b, a), a, b)
			same(t, "(a + b) + c = a + (b + c), "+f.name, f.add(sum, c), f.add(a, f.add(b, c)), a, b, c)
			same(t, "a b = b a, "+f.name, product, f.mul(b, a), a, b)
			same(t, "(a b) c = a (b c), "+f.name, f.mul(product, c), f.mul(a, f.mul(b, c)), a, b, c)
			same(t, "a (b + c) = a b + a c, "+f.name, f.mul(a, f.add(b, c)), f.add(product, f.mul(a, c)), a, b, c)
			same(t, "a + 0 = a 1, "+f.name, f.add(a, zero), f.mul(a, one), a)
			same(t, "a + -1 a = 0, "+f.name, f.add(a, f.mul(a, word.Sub(f.prime, one))), zero, a)
			same(t, "0 a = 0, "+f.name, f.mul(zero, a), zero, a)
		}
		for _, a := range fewEdges() {
			for _, b := range fewEdges() {
				for _, c := range fewEdges() {
					laws(a, b, c)
				}
			}
		}
		r := source()
		for range 20000 {
			laws(draw(r), draw(r), draw(r))
		}
	}
}

// P404: Sub takes a sum back.
func TestSubTakesBack(t *testing.T) {
	pairs(func(a, b api.Word) {
		same(t, "(a - b) + b", field.Add(field.Sub(a, b), b), field.Add(a, zero), a, b)
		same(t, "(a + b) - b", field.Sub(field.Add(a, b), b), field.Add(a, zero), a, b)
	})
}

// P404: each number but 0 has an inverse, and to the prime less 1 it is 1.
func TestInversesInBoth(t *testing.T) {
	for _, f := range both() {
		for _, a := range some(100) {
			if f.mul(a, one) == zero {
				continue
			}
			inverse := f.pow(a, word.Sub(f.prime, two))
			same(t, "a 1/a, "+f.name, f.mul(a, inverse), one, a)
			same(t, "a to the prime less 1, "+f.name, f.pow(a, word.Sub(f.prime, one)), one, a)
		}
	}
	for _, a := range some(100) {
		if field.Mul(a, one) != zero {
			same(t, "Pow to the P - 1", field.Pow(a, word.Sub(field.P(), one)), one, a)
			same(t, "Pow to the P", field.Pow(a, field.P()), field.Mul(a, one), a)
		}
	}
}
