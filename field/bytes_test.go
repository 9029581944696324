package field_test

import (
	"bytes"
	"math/big"
	"math/rand/v2"
	"slices"
	"testing"

	"conclave/api"
	"conclave/field"
)

// lowFirst: n bytes of a number, the lowest first.
func lowFirst(x *big.Int, n int) []byte {
	b := x.FillBytes(make([]byte, n))
	slices.Reverse(b)
	return b
}

// numberOf: of bytes, the lowest first.
func numberOf(b []byte) *big.Int {
	b = slices.Clone(b)
	slices.Reverse(b)
	return new(big.Int).SetBytes(b)
}

func drawBytes(r *rand.Rand, n int) []byte {
	b := make([]byte, n)
	for i := range b {
		b[i] = byte(r.Uint32())
	}
	return b
}

// readers: Read and Lread, with their primes.
func readers() map[string]struct {
	read  func([]byte) (api.Word, api.Errno)
	prime *big.Int
} {
	return map[string]struct {
		read  func([]byte) (api.Word, api.Errno)
		prime *big.Int
	}{"Read": {field.Read, primeP()}, "Lread": {field.Lread, primeL()}}
}

// P402: Read and Lread of 32 bytes: their number, if it is below the prime.
func TestReadNumbers(t *testing.T) {
	for name, x := range readers() {
		r := source()
		words := append(some(500), near(x.prime, -1), near(x.prime, 0), near(x.prime, 1), ones)
		for range 500 { // and numbers below the prime
			words = append(words, modulo(bigOf(draw(r)), x.prime))
		}
		for _, w := range words {
			got, err := x.read(lowFirst(bigOf(w), 32))
			want, wantErr := w, api.OK
			if bigOf(w).Cmp(x.prime) >= 0 {
				want, wantErr = zero, api.ErrPoint
			}
			if got != want || err != wantErr {
				t.Fatalf("%s of %x: %x, %v, not %x, %v", name, w, got, err, want, wantErr)
			}
		}
	}
}

// P402: the edges by name: the prime less 1, the prime, the greatest bytes.
func TestReadEdges(t *testing.T) {
	for name, x := range readers() {
		for _, c := range []struct {
			n   *big.Int
			err api.Errno
		}{
			{big.NewInt(0), api.OK}, {big.NewInt(1), api.OK}, {new(big.Int).Sub(x.prime, big.NewInt(1)), api.OK},
			{x.prime, api.ErrPoint}, {new(big.Int).Add(x.prime, big.NewInt(1)), api.ErrPoint}, {bigOf(ones), api.ErrPoint},
		} {
			got, err := x.read(lowFirst(c.n, 32))
			want := wordOf(c.n)
			if c.err != api.OK {
				want = zero
			}
			if got != want || err != c.err {
				t.Errorf("%s of %x: %x, %v", name, c.n, got, err)
			}
		}
	}
	// each byte at its place
	for i := range 31 {
		b := make([]byte, 32)
		b[i] = byte(i + 1)
		want := wordOf(new(big.Int).Lsh(big.NewInt(int64(i+1)), uint(8*i)))
		for name, x := range readers() {
			if got, err := x.read(b); got != want || err != api.OK {
				t.Errorf("%s with the byte %d: %x, %v", name, i, got, err)
			}
		}
	}
}

// P402: ErrArg for all but 32 bytes, whatever they are.
func TestReadLengths(t *testing.T) {
	for name, x := range readers() {
		for n := range 70 {
			if n == 32 {
				continue
			}
			for _, fill := range []byte{0, 1, 0xff} {
				if got, err := x.read(bytes.Repeat([]byte{fill}, n)); got != zero || err != api.ErrArg {
					t.Errorf("%s of %d bytes %x: %x, %v", name, n, fill, got, err)
				}
			}
		}
		if got, err := x.read(nil); got != zero || err != api.ErrArg {
			t.Errorf("%s of nil: %x, %v", name, got, err)
		}
	}
}

// P402: Bytes: 32, of a modulo P, which Read reads.
func TestBytes(t *testing.T) {
	for _, a := range some(1000) {
		want := new(big.Int).Mod(bigOf(a), primeP())
		got := field.Bytes(a)
		if !bytes.Equal(got, lowFirst(want, 32)) {
			t.Fatalf("Bytes of %x: %x", a, got)
		}
		if back, err := field.Read(got); back != wordOf(want) || err != api.OK {
			t.Fatalf("Read of Bytes of %x: %x, %v", a, back, err)
		}
	}
}

// P402: Lfold of 0 to 64 bytes: noughts, ones, drawn ones, and numbers beside what L goes into.
func TestLfold(t *testing.T) {
	fold := func(b []byte) {
		t.Helper()
		got, err := field.Lfold(b)
		if want := modulo(numberOf(b), primeL()); got != want || err != api.OK {
			t.Fatalf("Lfold of %x: %x, %v, not %x", b, got, err, want)
		}
	}
	r := source()
	fold(nil)
	for n := range 65 {
		fold(make([]byte, n))
		fold(bytes.Repeat([]byte{0xff}, n))
		for i := range n { // each byte alone at its place
			b := make([]byte, n)
			b[i] = 0x80
			fold(b)
		}
		for range 100 {
			fold(drawBytes(r, n))
		}
	}
	most := new(big.Int).Div(power(512), primeL())
	for range 2000 {
		times := new(big.Int).Mod(numberOf(drawBytes(r, 33)), most)
		n := new(big.Int).Mul(times, primeL())
		for _, d := range []int64{0, 1, -1} {
			if x := new(big.Int).Add(n, big.NewInt(d)); x.Sign() >= 0 {
				fold(lowFirst(x, 64))
			}
		}
	}
}

// P402: ErrArg for more than 64 bytes, noughts too.
func TestLfoldTooMuch(t *testing.T) {
	for _, n := range []int{65, 66, 96, 128, 1000} {
		for _, fill := range []byte{0, 1, 0xff} {
			if got, err := field.Lfold(bytes.Repeat([]byte{fill}, n)); got != zero || err != api.ErrArg {
				t.Errorf("Lfold of %d bytes %x: %x, %v", n, fill, got, err)
			}
		}
	}
}

// Rule 4: bytes that are handed in stay, their spare room too, and are not kept.
func TestBytesStay(t *testing.T) {
	for name, ask := range map[string]func([]byte) (api.Word, api.Errno){"Read": field.Read, "Lread": field.Lread, "Lfold": field.Lfold} {
		for _, n := range []int{0, 1, 31, 32, 33, 63, 64, 65} {
			room := bytes.Repeat([]byte{7}, n+40)
			b := room[:n]
			before, err := ask(b)
			if !bytes.Equal(room, bytes.Repeat([]byte{7}, n+40)) {
				t.Fatalf("%s of %d bytes changed them", name, n)
			}
			for i := range room {
				room[i] = 1
			}
			if after, again := ask(bytes.Repeat([]byte{7}, n)); after != before || again != err {
				t.Fatalf("%s of %d bytes hangs on bytes handed in earlier", name, n)
			}
		}
	}
}

// Rule 4: Bytes hands out new memory, its spare room too.
func TestBytesAreNew(t *testing.T) {
	a := field.Bytes(api.Word{9})
	b := field.Bytes(api.Word{9})
	for i := range cap(a) {
		a[:cap(a)][i] = 0xee
	}
	if want := lowFirst(big.NewInt(9), 32); !bytes.Equal(b, want) || !bytes.Equal(field.Bytes(api.Word{9}), want) {
		t.Error("two answers of Bytes share memory")
	}
}
