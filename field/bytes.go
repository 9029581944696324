package field

import (
	"conclave/api"
	"conclave/word"
)

// Read: the number of 32 bytes, the lowest first, which must be below P.
func Read(b []byte) (api.Word, api.Errno) { return readBelow(P(), b) }

// Bytes: all 32 of a modulo P, the lowest first.
func Bytes(a api.Word) []byte {
	a = below(a)
	b := make([]byte, wordBytes)
	for i := range wordBytes {
		b[i] = byte(a[i/8] >> (8 * (i % 8)))
	}
	return b
}

// Lread: as Read, but below L.
func Lread(b []byte) (api.Word, api.Errno) { return readBelow(L(), b) }

// Lfold: the number of at most 64 bytes, the lowest first, modulo L.
func Lfold(b []byte) (api.Word, api.Errno) {
	if len(b) > 2*wordBytes {
		return api.Word{}, api.ErrArg
	}
	n := min(len(b), wordBytes)
	return Ladd(number(b[:n]), Lmul(number(b[n:]), beyond())), api.OK
}

// beyond: 2^256 modulo L, what the high half of 64 bytes counts for.
func beyond() api.Word {
	greatest := word.Not(api.Word{})
	return Ladd(greatest, word.Of(1))
}

// readBelow: the number of 32 bytes, which must be below a prime.
func readBelow(prime api.Word, b []byte) (api.Word, api.Errno) {
	if len(b) != wordBytes {
		return api.Word{}, api.ErrArg
	}
	a := number(b)
	if word.Cmp(a, prime) >= 0 {
		return api.Word{}, api.ErrPoint
	}
	return a, api.OK
}

// number: of at most 32 bytes, the lowest first.
func number(b []byte) api.Word {
	var a api.Word
	for i := range len(b) {
		a[i/8] |= uint64(b[i]) << (8 * (i % 8))
	}
	return a
}
