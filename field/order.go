package field

import (
	"conclave/api"
	"conclave/word"
)

// L: 2^252 + 27742317777372353535851937790883648493, how many points the base of the curve makes.
func L() api.Word {
	return api.Word{0x5812631a5cf5d3ed, 0x14def9dea2f79cd6, 0, 1 << 60}
}

// Ladd: the sum modulo L.
func Ladd(a, b api.Word) api.Word { return word.Addmod(a, b, L()) }

// Lmul: the product modulo L.
func Lmul(a, b api.Word) api.Word { return word.Mulmod(a, b, L()) }
