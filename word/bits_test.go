package word_test

import (
	"math/big"
	"testing"

	"conclave/api"
	"conclave/word"
)

// beyond: numbers of bits and bytes that are out of a word, some of which look small by their lowest limb.
func beyond() []api.Word {
	return []api.Word{{256}, {257}, {300}, {1 << 32}, {1 << 63}, {full}, {0, 1}, {1, 1}, {8, 0, 1}, {0, 0, 0, 1}, {31, 0, 0, 1}, least, ones, minus(1), minus(256)}
}

// some: edges and drawn words.
func some() []api.Word {
	ws := edges()
	r := source()
	for range 200 {
		ws = append(ws, draw(r))
	}
	return ws
}

// P104: And, Or, Xor, Not.
func TestBitByBit(t *testing.T) {
	pairs(func(a, b api.Word) {
		x, y := bigOf(a), bigOf(b)
		same(t, "And", word.And(a, b), wordOf(new(big.Int).And(x, y)), a, b)
		same(t, "Or", word.Or(a, b), wordOf(new(big.Int).Or(x, y)), a, b)
		same(t, "Xor", word.Xor(a, b), wordOf(new(big.Int).Xor(x, y)), a, b)
		same(t, "Not", word.Not(a), wordOf(new(big.Int).Not(x)), a)
	})
	same(t, "Not", word.Not(zero), ones)
	same(t, "Not", word.Not(ones), zero)
}

// P104: Byte, from the highest on; 0 from 32 on.
func TestByte(t *testing.T) {
	for _, x := range some() {
		b := bigOf(x).FillBytes(make([]byte, 32))
		for i := range uint64(32) {
			same(t, "Byte", word.Byte(api.Word{i}, x), api.Word{uint64(b[i])}, api.Word{i}, x)
		}
		for _, i := range append(beyond(), api.Word{32}, api.Word{33}, api.Word{64}, api.Word{255}) {
			same(t, "Byte", word.Byte(i, x), zero, i, x)
		}
	}
	same(t, "Byte", word.Byte(api.Word{31}, api.Word{5}), api.Word{5})
	same(t, "Byte", word.Byte(zero, least), api.Word{128})
}

// P104: Shl, Shr, Sar by 0 to 255 bits.
func TestShifts(t *testing.T) {
	for _, x := range some() {
		for n := range uint(256) {
			by := api.Word{uint64(n)}
			same(t, "Shl", word.Shl(by, x), wordOf(new(big.Int).Lsh(bigOf(x), n)), by, x)
			same(t, "Shr", word.Shr(by, x), wordOf(new(big.Int).Rsh(bigOf(x), n)), by, x)
			same(t, "Sar", word.Sar(by, x), wordOf(new(big.Int).Rsh(signedOf(x), n)), by, x)
		}
	}
	same(t, "Sar", word.Sar(one, least), api.Word{0, 0, 0, 3 << 62})
	same(t, "Sar", word.Sar(api.Word{255}, least), ones)
	same(t, "Shr", word.Shr(api.Word{255}, least), one)
	same(t, "Shl", word.Shl(api.Word{255}, one), least)
}

// P104: shifts by 256 bits and more.
func TestShiftsBeyond(t *testing.T) {
	for _, x := range some() {
		signs := zero
		if signedOf(x).Sign() < 0 {
			signs = ones
		}
		for _, n := range beyond() {
			same(t, "Shl", word.Shl(n, x), zero, n, x)
			same(t, "Shr", word.Shr(n, x), zero, n, x)
			same(t, "Sar", word.Sar(n, x), signs, n, x)
		}
	}
}

// extended: the signed number of x's lowest k + 1 bytes.
func extended(k uint, x api.Word) api.Word {
	size := new(big.Int).Lsh(big.NewInt(1), 8*(k+1))
	n := new(big.Int).Mod(bigOf(x), size)
	if n.Bit(int(8*k+7)) == 1 {
		n.Sub(n, size)
	}
	return wordOf(n)
}

// P104: Signext below 31, and x itself from there on.
func TestSignext(t *testing.T) {
	for _, x := range some() {
		for k := range uint(31) {
			n := api.Word{uint64(k)}
			same(t, "Signext", word.Signext(n, x), extended(k, x), n, x)
		}
		for _, n := range append(beyond(), api.Word{31}, api.Word{32}, api.Word{255}) {
			same(t, "Signext", word.Signext(n, x), x, n, x)
		}
	}
	same(t, "Signext", word.Signext(zero, api.Word{255}), ones)
	same(t, "Signext", word.Signext(zero, api.Word{127}), api.Word{127})
	same(t, "Signext", word.Signext(zero, api.Word{0x17f}), api.Word{0x7f})
	same(t, "Signext", word.Signext(one, api.Word{0x8000}), minus(0x8000))
	same(t, "Signext", word.Signext(api.Word{30}, power(247)), wordOf(new(big.Int).Neg(bigOf(power(247)))))
}
