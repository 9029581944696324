package field

import (
	"math/bits"

	"conclave/api"
	"conclave/word"
)

// What stands here is written out limb by limb: nearly all the time of a signature goes by in it.

// Add: the sum modulo P.
func Add(a, b api.Word) api.Word {
	s0, carry := bits.Add64(a[0], b[0], 0)
	s1, carry := bits.Add64(a[1], b[1], carry)
	s2, carry := bits.Add64(a[2], b[2], carry)
	s3, carry := bits.Add64(a[3], b[3], carry)
	return settle(s0, s1, s2, s3, carry)
}

// Sub: the difference modulo P. Where a is below b, four times P, which is 2^257 - 76, is added to it: that borrows 2^256 back and leaves another.
func Sub(a, b api.Word) api.Word {
	d0, borrow := bits.Sub64(a[0], b[0], 0)
	d1, borrow := bits.Sub64(a[1], b[1], borrow)
	d2, borrow := bits.Sub64(a[2], b[2], borrow)
	d3, borrow := bits.Sub64(a[3], b[3], borrow)
	d0, less := bits.Sub64(d0, 76*borrow, 0)
	d1, less = bits.Sub64(d1, 0, less)
	d2, less = bits.Sub64(d2, 0, less)
	d3, less = bits.Sub64(d3, 0, less)
	return settle(d0, d1, d2, d3, borrow-less)
}

// Mul: the product modulo P. Its upper half is multiplied by 38, which is 2^256 modulo P, and added to the lower one.
func Mul(a, b api.Word) api.Word {
	b0, b1, b2, b3 := b[0], b[1], b[2], b[3]
	p0, p1, p2, p3, p4 := row(a[0], b0, b1, b2, b3, 0, 0, 0, 0)
	p1, p2, p3, p4, p5 := row(a[1], b0, b1, b2, b3, p1, p2, p3, p4)
	p2, p3, p4, p5, p6 := row(a[2], b0, b1, b2, b3, p2, p3, p4, p5)
	p3, p4, p5, p6, p7 := row(a[3], b0, b1, b2, b3, p3, p4, p5, p6)
	return settle(row(38, p4, p5, p6, p7, p0, p1, p2, p3))
}

// below: a modulo P.
func below(a api.Word) api.Word { return settle(a[0], a[1], a[2], a[3], 0) }

// row: x times the number of b's limbs, and the number of c's added, in five limbs, the lowest first; nothing is lost, as all is below 2^320.
func row(x, b0, b1, b2, b3, c0, c1, c2, c3 uint64) (uint64, uint64, uint64, uint64, uint64) {
	c0, carry := mulAdd(x, b0, c0, 0)
	c1, carry = mulAdd(x, b1, c1, carry)
	c2, carry = mulAdd(x, b2, c2, carry)
	c3, carry = mulAdd(x, b3, c3, carry)
	return c0, c1, c2, c3, carry
}

// mulAdd: a b + c + d as its low and its high limb; the greatest such number fills both just so, and nothing is lost.
func mulAdd(a, b, c, d uint64) (uint64, uint64) {
	high, low := bits.Mul64(a, b)
	low, more := bits.Add64(low, c, 0)
	high += more
	low, more = bits.Add64(low, d, 0)
	return low, high + more
}

// settle: the number of five limbs modulo P, the highest of which is small. All from the bit 255 on counts 19, which is 2^255 modulo P. What comes of that is hardly ever so great that the highest limb does not tell that it is below P.
func settle(a0, a1, a2, a3, above uint64) api.Word {
	a0, carry := bits.Add64(a0, 19*(above<<1|a3>>63), 0)
	a1, carry = bits.Add64(a1, 0, carry)
	a2, carry = bits.Add64(a2, 0, carry)
	a3 = a3&(1<<63-1) + carry
	if a3 < 1<<63-1 {
		return api.Word{a0, a1, a2, a3}
	}
	return word.Mod(api.Word{a0, a1, a2, a3}, P())
}
