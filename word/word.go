// Package word is layer 1: numbers of 256 bits. See shared/doc/01-word.md.
package word

import (
	"math/bits"

	"conclave/api"
)

const (
	limbs     = 4  // of a word
	limbBits  = 64 // of a limb
	wordBits  = limbs * limbBits
	wordBytes = wordBits / 8
)

// Of: the word of a number.
func Of(n uint64) api.Word { return api.Word{n} }

// Uint: the number of a word, and whether 64 bits hold it.
func Uint(w api.Word) (uint64, bool) {
	if w != Of(w[0]) {
		return 0, false
	}
	return w[0], true
}

// Read: the number of at most 32 bytes, the highest first.
func Read(b []byte) (api.Word, api.Errno) {
	var w api.Word
	if len(b) > wordBytes {
		return w, api.ErrBig
	}
	for i := range len(b) {
		w[i/8] |= uint64(b[len(b)-1-i]) << (8 * (i % 8))
	}
	return w, api.OK
}

// Bytes: all 32, the highest first.
func Bytes(w api.Word) []byte {
	b := make([]byte, wordBytes)
	for i := range wordBytes {
		b[wordBytes-1-i] = lowByte(w, i)
	}
	return b
}

// Short: as Bytes, without the noughts at the beginning.
func Short(w api.Word) []byte {
	n := Len(w)
	b := make([]byte, n)
	for i := range n {
		b[n-1-i] = lowByte(w, i)
	}
	return b
}

// Len: how many bytes Short has.
func Len(w api.Word) int { return (bitLen(w) + 7) / 8 }

// lowByte: the byte number i, from the lowest on.
func lowByte(w api.Word, i int) byte { return byte(w[i/8] >> (8 * (i % 8))) }

// bitLen: how many bits w has without the noughts at its high end.
func bitLen(w api.Word) int {
	n := used(w)
	if n == 0 {
		return 0
	}
	return (n-1)*limbBits + bits.Len64(w[n-1])
}

// used: how many limbs w has without the noughts at its high end.
func used(w api.Word) int {
	n := 0
	for i := range limbs {
		if w[i] != 0 {
			n = i + 1
		}
	}
	return n
}
