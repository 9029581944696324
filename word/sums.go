package word

import (
	"math/bits"

	"conclave/api"
)

// wide: a whole product of two words, the lowest limb first.
type wide [2 * limbs]uint64

// Add: the sum, modulo 2^256.
func Add(a, b api.Word) api.Word {
	s, _ := sum(a, b)
	return s
}

// Sub: the difference, modulo 2^256.
func Sub(a, b api.Word) api.Word {
	var d api.Word
	var borrow uint64
	for i := range limbs {
		d[i], borrow = bits.Sub64(a[i], b[i], borrow)
	}
	return d
}

// Mul: the product, modulo 2^256.
func Mul(a, b api.Word) api.Word { return lowHalf(product(a, b)) }

// Exp: a to the b, modulo 2^256; 0 to the 0 is 1.
func Exp(a, b api.Word) api.Word {
	p := Of(1)
	for i := range bitLen(b) {
		if b[i/limbBits]>>(i%limbBits)&1 == 1 {
			p = Mul(p, a)
		}
		a = Mul(a, a)
	}
	return p
}

// sum: of a and b, with what goes beyond the highest limb.
func sum(a, b api.Word) (api.Word, uint64) {
	var s api.Word
	var carry uint64
	for i := range limbs {
		s[i], carry = bits.Add64(a[i], b[i], carry)
	}
	return s, carry
}

// product: of a and b, whole.
func product(a, b api.Word) wide {
	var p wide
	for i := range limbs {
		var carry uint64
		for j := range limbs {
			p[i+j], carry = mulAdd(a[i], b[j], p[i+j], carry)
		}
		p[i+limbs] = carry
	}
	return p
}

// mulAdd: a b + c + d as its low and its high limb; the greatest such number fills both just so, and nothing is lost.
func mulAdd(a, b, c, d uint64) (uint64, uint64) {
	high, low := bits.Mul64(a, b)
	low, more := bits.Add64(low, c, 0)
	high += more
	low, more = bits.Add64(low, d, 0)
	return low, high + more
}

// lowHalf: x modulo 2^256.
func lowHalf(x wide) api.Word { return api.Word{x[0], x[1], x[2], x[3]} }
