package word_test

import (
	"bytes"
	"math/big"
	"math/rand/v2"
	"testing"

	"conclave/api"
	"conclave/word"
)

const full = 1<<64 - 1

var (
	zero  = api.Word{}
	one   = api.Word{1}
	ones  = api.Word{full, full, full, full}
	least = api.Word{0, 0, 0, 1 << 63}            // the least signed number
	most  = api.Word{full, full, full, 1<<63 - 1} // the greatest signed number
	whole = new(big.Int).Lsh(big.NewInt(1), 256)  // what all is modulo of
	half  = new(big.Int).Rsh(whole, 1)            // where signed numbers turn
	chars = []uint64{0, 1, 2, 255, 256, 1<<63 - 1, 1 << 63, 1<<63 + 1, full - 1, full}
)

// bigOf: the number of a word, reckoned without the package.
func bigOf(w api.Word) *big.Int {
	n := new(big.Int)
	for i := 3; i >= 0; i-- {
		n.Lsh(n, 64).Or(n, new(big.Int).SetUint64(w[i]))
	}
	return n
}

// signedOf: the signed number of a word.
func signedOf(w api.Word) *big.Int {
	n := bigOf(w)
	if n.Cmp(half) >= 0 {
		n.Sub(n, whole)
	}
	return n
}

// wordOf: the word of a number modulo 2^256.
func wordOf(n *big.Int) api.Word {
	m := new(big.Int).Mod(n, whole)
	var w api.Word
	for i := range w {
		w[i] = new(big.Int).And(m, new(big.Int).SetUint64(full)).Uint64()
		m.Rsh(m, 64)
	}
	return w
}

// minus: the word of -n.
func minus(n int64) api.Word { return wordOf(big.NewInt(-n)) }

// power: the word of 2^n.
func power(n uint) api.Word { return wordOf(new(big.Int).Lsh(big.NewInt(1), n)) }

// edges: the words at which limbs, signs and sizes turn.
func edges() []api.Word {
	ws := []api.Word{zero, one, {2}, {3}, {7}, {10}, {31}, {32}, {255}, {256}, ones, least, most,
		minus(2), minus(3), minus(7), minus(256), word31(), {full}, {0, 1}, {1, 1}, {full, full},
		{0, 0, 1}, {full, full, full}, {0, 0, 0, 1}, {1, 0, 0, 1}, {0, full, 0, full}}
	for _, n := range []uint{7, 8, 15, 63, 65, 127, 129, 191, 193, 247, 248, 254} {
		ws = append(ws, power(n), wordOf(new(big.Int).Sub(bigOf(power(n)), big.NewInt(1))))
	}
	return ws
}

// word31: a number whose bytes all differ.
func word31() api.Word {
	w, _ := word.Read([]byte{1, 2, 3, 4, 5, 6, 7, 8, 9, 10, 11, 12, 13, 14, 15, 16, 17, 18, 19, 20, 21, 22, 23, 24, 25, 26, 27, 28, 29, 30, 31})
	return w
}

// source: the same numbers at each run.
func source() *rand.Rand { return rand.New(rand.NewPCG(1, 2)) }

// draw: a word of any size whose limbs are often near where they turn.
func draw(r *rand.Rand) api.Word {
	var w api.Word
	for i := range 1 + r.IntN(4) {
		if r.IntN(2) == 0 {
			w[i] = chars[r.IntN(len(chars))]
		} else {
			w[i] = r.Uint64() >> r.IntN(64)
		}
	}
	return w
}

// pairs: all edges with all, and drawn ones.
func pairs(f func(a, b api.Word)) {
	for _, a := range edges() {
		for _, b := range edges() {
			f(a, b)
		}
	}
	r := source()
	for range 100000 {
		f(draw(r), draw(r))
	}
}

// same: the answer is the one that math/big has.
func same(t *testing.T, what string, got, want api.Word, args ...api.Word) {
	t.Helper()
	if got != want {
		t.Fatalf("%s of %x: %x, not %x", what, args, got, want)
	}
}

// P101: Of and Uint, at the edge of 64 bits and with each higher limb alone.
func TestOfUint(t *testing.T) {
	for _, n := range chars {
		same(t, "Of", word.Of(n), api.Word{n, 0, 0, 0})
		if m, ok := word.Uint(api.Word{n}); m != n || !ok {
			t.Errorf("Uint of %d: %d, %v", n, m, ok)
		}
	}
	for _, w := range []api.Word{{0, 1}, {5, 1}, {5, 0, 1}, {5, 0, 0, 1}, power(64), least, ones} {
		if m, ok := word.Uint(w); m != 0 || ok {
			t.Errorf("Uint of %x: %d, %v, not 0, false", w, m, ok)
		}
	}
}

// P101: Read takes 0 to 32 bytes, the first one the highest.
func TestRead(t *testing.T) {
	b := make([]byte, 32)
	for i := range b {
		b[i] = byte(200 + i)
	}
	for n := range len(b) + 1 {
		w, e := word.Read(b[:n])
		if e != api.OK {
			t.Errorf("Read of %d bytes: %v", n, e)
		}
		same(t, "Read", w, wordOf(new(big.Int).SetBytes(b[:n])))
	}
	for _, b := range [][]byte{nil, {}, {0}, make([]byte, 32)} {
		if w, e := word.Read(b); w != zero || e != api.OK {
			t.Errorf("Read of %x: %x, %v", b, w, e)
		}
	}
}

// P101: Read refuses more than 32 bytes, noughts too, and answers 0 beside the error.
func TestReadBig(t *testing.T) {
	for _, n := range []int{33, 34, 64, 1000} {
		for _, fill := range []byte{0, 1, 255} {
			if w, e := word.Read(bytes.Repeat([]byte{fill}, n)); w != zero || e != api.ErrBig {
				t.Errorf("Read of %d bytes %x: %x, %v", n, fill, w, e)
			}
		}
	}
}

// P101: Bytes, Short and Len, and back by Read.
func TestBytesShortLen(t *testing.T) {
	pairs(func(w, _ api.Word) {
		long := bigOf(w).FillBytes(make([]byte, 32))
		short := bigOf(w).Bytes()
		if got := word.Bytes(w); !bytes.Equal(got, long) {
			t.Fatalf("Bytes of %x: %x", w, got)
		}
		if got := word.Short(w); !bytes.Equal(got, short) {
			t.Fatalf("Short of %x: %x", w, got)
		}
		if got := word.Len(w); got != len(short) {
			t.Fatalf("Len of %x: %d", w, got)
		}
		for _, b := range [][]byte{long, short} {
			if back, e := word.Read(b); back != w || e != api.OK {
				t.Fatalf("Read of %x: %x, %v", b, back, e)
			}
		}
	})
	for w, n := range map[api.Word]int{zero: 0, one: 1, {255}: 1, {256}: 2, {full}: 8, {0, 1}: 9, {0, 0, 1}: 17, {0, 0, 0, 1}: 25, power(247): 31, power(248): 32, ones: 32} {
		if got := word.Len(w); got != n {
			t.Errorf("Len of %x: %d, not %d", w, got, n)
		}
	}
}

// P101: what is handed in stays as it was, its spare room too; what is handed out is nobody else's.
func TestBytesMemory(t *testing.T) {
	room := []byte{1, 2, 3, 4, 5}
	word.Read(room[:2])
	if !bytes.Equal(room, []byte{1, 2, 3, 4, 5}) {
		t.Errorf("Read wrote: %x", room)
	}
	for what, f := range map[string]func(api.Word) []byte{"Bytes": word.Bytes, "Short": word.Short} {
		a, b := f(ones), f(ones)
		clear(a[:cap(a)])
		if !bytes.Equal(b, f(ones)) || !bytes.Equal(b, bytes.Repeat([]byte{255}, 32)) {
			t.Errorf("%s: an answer changes with another", what)
		}
	}
}
