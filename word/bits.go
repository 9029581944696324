package word

import "conclave/api"

// And: the bits that both have.
func And(a, b api.Word) api.Word {
	for i := range limbs {
		a[i] &= b[i]
	}
	return a
}

// Or: the bits that one of them has.
func Or(a, b api.Word) api.Word {
	for i := range limbs {
		a[i] |= b[i]
	}
	return a
}

// Xor: the bits that just one of them has.
func Xor(a, b api.Word) api.Word {
	for i := range limbs {
		a[i] ^= b[i]
	}
	return a
}

// Not: the bits that a has not.
func Not(a api.Word) api.Word {
	for i := range limbs {
		a[i] = ^a[i]
	}
	return a
}

// Byte: the byte number i of x, from the highest on; 0 from 32 on.
func Byte(i, x api.Word) api.Word {
	n, ok := below(i, wordBytes)
	if !ok {
		return api.Word{}
	}
	return Of(uint64(lowByte(x, wordBytes-1-n)))
}

// Shl: x by n bits towards the high end.
func Shl(n, x api.Word) api.Word {
	var y api.Word
	by, ok := below(n, wordBits)
	if !ok {
		return y
	}
	whole, rest := by/limbBits, by%limbBits
	for i := range limbs - whole {
		y[i+whole] = x[i] << rest
		if i > 0 {
			y[i+whole] |= x[i-1] >> (limbBits - rest)
		}
	}
	return y
}

// Shr: x by n bits towards the low end.
func Shr(n, x api.Word) api.Word {
	var y api.Word
	by, ok := below(n, wordBits)
	if !ok {
		return y
	}
	whole, rest := by/limbBits, by%limbBits
	for i := range limbs - whole {
		y[i] = x[i+whole] >> rest
		if i+whole+1 < limbs {
			y[i] |= x[i+whole+1] << (limbBits - rest)
		}
	}
	return y
}

// Sar: as Shr, but copies of the highest bit come in.
func Sar(n, x api.Word) api.Word {
	if negative(x) { // noughts that come into the turned number are ones
		return Not(Shr(n, Not(x)))
	}
	return Shr(n, x)
}

// Signext: x as a signed number of k + 1 bytes; from k = 31 on x.
func Signext(k, x api.Word) api.Word {
	n, ok := below(k, wordBytes-1)
	if !ok {
		return x
	}
	spare := Of(uint64(8 * (wordBytes - 1 - n)))
	return Sar(spare, Shl(spare, x))
}

// below: the number of w and true, if it is below limit; a word whose high limbs are not 0 must not pass for a small one.
func below(w api.Word, limit uint64) (int, bool) {
	n, ok := Uint(w)
	if !ok || n >= limit {
		return 0, false
	}
	return int(n), true
}
