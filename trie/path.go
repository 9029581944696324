package trie

import "conclave/api"

// A head's flags, in its higher half.
const (
	oddFlag  = 1
	leafFlag = 2
)

const mostNibbles = 2 * api.MaxKey

// Compact: nibbles as bytes.
func Compact(nibbles []byte, leaf bool) ([]byte, api.Errno) {
	for _, n := range nibbles {
		if n > 15 {
			return nil, api.ErrArg
		}
	}
	return compact(nibbles, leaf), api.OK
}

// compact: Compact of what are nibbles.
func compact(nibbles []byte, leaf bool) []byte {
	flags := byte(0)
	if leaf {
		flags = leafFlag
	}
	head := []byte{flags, 0}
	if len(nibbles)%2 == 1 {
		head = []byte{flags | oddFlag}
	}
	return joined(append(head, nibbles...))
}

// Expand: the nibbles that Compact made these bytes of, and whether they are a leaf's.
func Expand(b []byte) ([]byte, bool, api.Errno) {
	nibbles := halves(b)
	if len(nibbles) == 0 || nibbles[0] > oddFlag|leafFlag {
		return nil, false, api.ErrArg
	}
	leaf := nibbles[0]&leafFlag != 0
	if nibbles[0]&oddFlag != 0 {
		return nibbles[1:], leaf, api.OK
	}
	if nibbles[1] != 0 {
		return nil, false, api.ErrArg
	}
	return nibbles[2:], leaf, api.OK
}

// halves: the nibbles of bytes.
func halves(b []byte) []byte {
	nibbles := make([]byte, 0, 2*len(b))
	for _, c := range b {
		nibbles = append(nibbles, c>>4, c&15)
	}
	return nibbles
}

// joined: the bytes of nibbles, whose number is even.
func joined(nibbles []byte) []byte {
	b := make([]byte, len(nibbles)/2)
	for i := range b {
		b[i] = nibbles[2*i]<<4 | nibbles[2*i+1]
	}
	return b
}

// alike: how many nibbles both begin with.
func alike(a, b []byte) int {
	n := 0
	for n < len(a) && n < len(b) && a[n] == b[n] {
		n++
	}
	return n
}
