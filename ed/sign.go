package ed

import (
	"conclave/api"
	"conclave/field"
	"conclave/sha"
)

const half = 32 // bytes of a seed, of a key, of each part of a signature

// Public: the key of a seed.
func Public(seed []byte) (api.Key, api.Errno) {
	if len(seed) != half {
		return api.Key{}, api.ErrArg
	}
	a, _ := secrets(seed)
	return timesBase(a), api.OK
}

// Sign: the signature of a text by a seed.
func Sign(seed, msg []byte) (api.Sig, api.Errno) {
	if len(seed) != half {
		return api.Sig{}, api.ErrArg
	}
	a, rest := secrets(seed)
	r := number(rest[:], msg)
	first, key := timesBase(r), timesBase(a)
	k := number(first[:], key[:], msg)
	var s api.Sig
	copy(s[:half], first[:])
	copy(s[half:], field.Bytes(field.Ladd(r, field.Lmul(k, a))))
	return s, api.OK
}

// Verify: whether s is a signature of a text for that key: its second half times the base, less k times the key's point, is the first half's point.
func Verify(k api.Key, msg []byte, s api.Sig) bool {
	key, wrong := Decode(k)
	if wrong != api.OK {
		return false
	}
	var r api.Key
	copy(r[:], s[:half])
	first, wrong := Decode(r)
	if wrong != api.OK {
		return false
	}
	second, wrong := field.Lread(s[half:])
	if wrong != api.OK {
		return false
	}
	return both(second, Base(), number(r[:], k[:], msg), opposite(key)) == first
}

// secrets: what a seed's hash gives: the number whose multiple of the base is the key, modulo L, as the base comes round after L steps, and the bytes that are hashed ahead of a text.
func secrets(seed []byte) (api.Word, [half]byte) {
	h := hash(seed)
	h[0] &^= 7
	h[half-1] = h[half-1]&0x7f | 0x40
	a, _ := field.Lfold(h[:half])
	var rest [half]byte
	copy(rest[:], h[half:])
	return a, rest
}

// timesBase: the bytes of n times the base.
func timesBase(n api.Word) api.Key { return Encode(Mul(n, Base())) }

// number: of the hash of texts one behind the other, modulo L.
func number(texts ...[]byte) api.Word {
	h := hash(texts...)
	n, _ := field.Lfold(h[:])
	return n
}

// hash: of texts one behind the other.
func hash(texts ...[]byte) [64]byte {
	h := sha.New()
	for _, t := range texts {
		h.Write(t)
	}
	return h.Sum()
}
