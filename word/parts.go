package word

import (
	"math/bits"

	"conclave/api"
)

// Div: the quotient, rounded down; 0 where b is 0.
func Div(a, b api.Word) api.Word {
	q, _ := divide(widen(a, 0), b)
	return lowHalf(q)
}

// Mod: what b leaves of a; 0 where b is 0.
func Mod(a, b api.Word) api.Word {
	_, r := divide(widen(a, 0), b)
	return r
}

// Sdiv: the quotient of signed numbers, rounded towards 0; 0 where b is 0.
func Sdiv(a, b api.Word) api.Word {
	q := Div(size(a), size(b))
	if negative(a) != negative(b) {
		return negate(q)
	}
	return q
}

// Smod: what b leaves of a, signed as a is; 0 where b is 0.
func Smod(a, b api.Word) api.Word {
	r := Mod(size(a), size(b))
	if negative(a) {
		return negate(r)
	}
	return r
}

// Addmod: what n leaves of the whole sum; 0 where n is 0.
func Addmod(a, b, n api.Word) api.Word {
	_, r := divide(widen(sum(a, b)), n)
	return r
}

// Mulmod: what n leaves of the whole product; 0 where n is 0.
func Mulmod(a, b, n api.Word) api.Word {
	_, r := divide(product(a, b), n)
	return r
}

// widen: w with one limb above it.
func widen(w api.Word, above uint64) wide {
	return wide{w[0], w[1], w[2], w[3], above}
}

// negative: is it below 0, as a signed number?
func negative(a api.Word) bool { return a[limbs-1]>>(limbBits-1) == 1 }

// negate: 0 less a; the least signed number stays itself.
func negate(a api.Word) api.Word { return Sub(api.Word{}, a) }

// size: a without its sign; that of the least signed number, 2^255, is right as an unsigned one.
func size(a api.Word) api.Word {
	if negative(a) {
		return negate(a)
	}
	return a
}

// divide: the quotient and what is left, 0 and 0 where v is 0: long division with limbs as digits (Knuth's algorithm D). Both numbers are shifted first so that v's highest bit is set: a digit's guess is then at most 2 too great.
func divide(u wide, v api.Word) (wide, api.Word) {
	var q wide
	n := used(v)
	if n == 0 {
		return q, api.Word{}
	}
	shift := uint64(bits.LeadingZeros64(v[n-1]))
	v = Shl(Of(shift), v)
	x := shifted(u, shift)
	for i := range len(x) - n {
		j := len(x) - n - 1 - i
		q[j] = digit(x[j:j+n+1], v[:n])
	}
	var r api.Word
	copy(r[:], x[:n])
	return q, Shr(Of(shift), r)
}

// shifted: u by less than 64 bits towards the high end, with a limb more for what goes beyond.
func shifted(u wide, n uint64) [2*limbs + 1]uint64 {
	var x [2*limbs + 1]uint64
	for i := range len(u) {
		x[i] |= u[i] << n
		x[i+1] = u[i] >> (limbBits - n)
	}
	return x
}

// digit: how often v goes into x, which has one limb more; what is left stays in x. It is asked where x without its lowest limb is below v, so that one limb holds the answer.
func digit(x, v []uint64) uint64 {
	q := guess(x, v)
	borrow := takeTimes(x, v, q)
	for borrow != 0 {
		q--
		borrow -= putBack(x, v)
	}
	return q
}

// guess: how often v's highest limb goes into x's two highest, but no more than a limb holds: never too little.
func guess(x, v []uint64) uint64 {
	n := len(v)
	if x[n] >= v[n-1] { // bits.Div64 would panic
		return 1<<limbBits - 1
	}
	q, _ := bits.Div64(x[n], x[n-1], v[n-1])
	return q
}

// takeTimes: takes q times v from x, and tells what was borrowed beyond x's highest limb.
func takeTimes(x, v []uint64, q uint64) uint64 {
	var part, carry, borrow uint64
	n := len(v)
	for i := range n {
		part, carry = mulAdd(q, v[i], carry, 0)
		x[i], borrow = bits.Sub64(x[i], part, borrow)
	}
	x[n], borrow = bits.Sub64(x[n], carry, borrow)
	return borrow
}

// putBack: adds v to x, and tells what goes beyond x's highest limb.
func putBack(x, v []uint64) uint64 {
	var carry uint64
	n := len(v)
	for i := range n {
		x[i], carry = bits.Add64(x[i], v[i], carry)
	}
	x[n], carry = bits.Add64(x[n], 0, carry)
	return carry
}
