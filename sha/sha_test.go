package sha_test

import (
	"bytes"
	"crypto/sha512"
	"encoding/binary"
	"encoding/hex"
	"math/bits"
	"math/rand/v2"
	"slices"
	"testing"

	"conclave/sha"
)

type hash = [64]byte

// source: numbers that look drawn and are the same in each run.
func source() *rand.Rand { return rand.New(rand.NewPCG(3, 303)) }

func drawBytes(r *rand.Rand, n int) []byte {
	b := make([]byte, n)
	for i := range b {
		b[i] = byte(r.Uint32())
	}
	return b
}

// lengths: all up to five blocks and somewhat beyond (so all edges of a block and of the place for the number of bits), and the edges of greater ones.
func lengths() []int {
	var all []int
	for n := range 5*128 + 10 {
		all = append(all, n)
	}
	for _, blocks := range []int{8, 33, 512} {
		end := 128 * blocks
		all = append(all, end-17, end-16, end-15, end-1, end, end+1)
	}
	return all
}

// edges: lengths beside the ends of blocks and of the place for the number of bits.
func edges() []int {
	return []int{0, 1, 2, 111, 112, 113, 127, 128, 129, 239, 240, 241, 255, 256, 257, 500}
}

// plain: the hash by the chapter's words, one step behind the other, with the package's constants.
func plain(b []byte) hash {
	length := uint64(len(b))
	b = append(slices.Clone(b), 0x80)
	for len(b)%128 != 112 {
		b = append(b, 0)
	}
	b = binary.BigEndian.AppendUint64(b, 0)
	b = binary.BigEndian.AppendUint64(b, 8*length)
	var state [8]uint64
	for i := range state {
		state[i] = sha.H(i)
	}
	for ; len(b) > 0; b = b[128:] {
		state = plainBlock(state, b[:128])
	}
	var out hash
	for i, w := range state {
		binary.BigEndian.PutUint64(out[8*i:], w)
	}
	return out
}

func right(x uint64, n int) uint64 { return bits.RotateLeft64(x, 64-n) }

func plainBlock(state [8]uint64, block []byte) [8]uint64 {
	var w [80]uint64
	for t := range w {
		if t < 16 {
			w[t] = binary.BigEndian.Uint64(block[8*t:])
			continue
		}
		x, y := w[t-15], w[t-2]
		w[t] = (right(y, 19) ^ right(y, 61) ^ y>>6) + w[t-7] + (right(x, 1) ^ right(x, 8) ^ x>>7) + w[t-16]
	}
	v := state // a to h
	for t := range w {
		a, e := v[0], v[4]
		t1 := v[7] + (right(e, 14) ^ right(e, 18) ^ right(e, 41)) + (e&v[5] ^ ^e&v[6]) + sha.K(t) + w[t]
		t2 := (right(a, 28) ^ right(a, 34) ^ right(a, 39)) + (a&v[1] ^ a&v[2] ^ v[1]&v[2])
		copy(v[1:], v[:7])
		v[4] += t1
		v[0] = t1 + t2
	}
	for i := range state {
		state[i] += v[i]
	}
	return state
}

// write: the hash of parts, written one behind the other.
func write(parts ...[]byte) hash {
	h := sha.New()
	for _, p := range parts {
		h.Write(p)
	}
	return h.Sum()
}

func same(t *testing.T, what string, got, want hash) {
	t.Helper()
	if got != want {
		t.Errorf("%s: %x, not %x", what, got, want)
	}
}

func parse(t *testing.T, text string) hash {
	t.Helper()
	b, err := hex.DecodeString(text)
	if err != nil {
		t.Fatal(err)
	}
	return hash(b)
}

// P301, example 1, and hashes that are known.
func TestSumKnown(t *testing.T) {
	for _, x := range []struct{ text, want string }{
		{"", "cf83e1357eefb8bdf1542850d66d8007d620e4050b5715dc83f4a921d36ce9ce47d0d13c5d85f2b0ff8318d2877eec2f63b931bd47417a81a538327af927da3e"},
		{"abc", "ddaf35a193617abacc417349ae20413112e6fa4e89a97ea20a9eeee64b55d39a2192992a274fc1a836ba3c23a3feebbd454d4423643ce80e2a9ac94fa54ca49f"},
		{"abcdefghbcdefghicdefghijdefghijkefghijklfghijklmghijklmnhijklmnoijklmnopjklmnopqklmnopqrlmnopqrsmnopqrstnopqrstu", "8e959b75dae313da8cf4f72814fc143f8f7779c6eb9f7fa17299aeadb6889018501d289e4900f7e4331b99dec4b5433ac7d329eeb6dd26545e96e55b874be909"},
		{"The quick brown fox jumps over the lazy dog", "07e547d9586f6a73f73fbac0435ed76951218fb7d0c8d788a309d785436bbb642e93a252a954f23912547d1e8a3b5ed6e1bfd7097821233fa0538f3db854fee6"},
	} {
		want := parse(t, x.want)
		same(t, "Sum of "+x.text, sha.Sum([]byte(x.text)), want)
		same(t, "Hasher of "+x.text, write([]byte(x.text)), want)
	}
	same(t, "Sum of nil", sha.Sum(nil), sha.Sum([]byte{}))
}

// P301: Sum and a Hasher at each length around the edges of blocks, of bytes drawn, of noughts and of ones, against the chapter's words and the library.
func TestSumLengths(t *testing.T) {
	r := source()
	for _, n := range lengths() {
		for _, b := range [][]byte{drawBytes(r, n), make([]byte, n), bytes.Repeat([]byte{0xff}, n)} {
			want := plain(b)
			same(t, "the chapter's words", want, sha512.Sum512(b))
			same(t, "Sum", sha.Sum(b), want)
			same(t, "Hasher", write(b), want)
			if t.Failed() {
				t.Fatalf("at %d bytes", n)
			}
		}
	}
}

// P301: each bit of a block counts, in the block that is hashed first and in the last.
func TestSumEachBit(t *testing.T) {
	b := drawBytes(source(), 200)
	for i := range 8 * len(b) {
		b[i/8] ^= 1 << (i % 8)
		same(t, "one bit turned over", sha.Sum(b), sha512.Sum512(b))
	}
}

// P301: a text is told apart from the same with the padding's bytes behind it.
func TestSumPadding(t *testing.T) {
	seen := map[hash]int{}
	for n := range 300 {
		b := make([]byte, n)
		seen[sha.Sum(b)]++
		seen[sha.Sum(append(b, 0x80))]++
	}
	if len(seen) != 600 {
		t.Errorf("%d hashes of 600 texts", len(seen))
	}
}

// P301: the number of bits leaves 32 bits.
func TestSumLong(t *testing.T) {
	part := drawBytes(source(), 1<<20+3)
	h, want := sha.New(), sha512.New()
	for range 1<<9 + 1 {
		h.Write(part)
		want.Write(part)
	}
	same(t, "more than 2^32 bits", h.Sum(), hash(want.Sum(nil)))
}

// P301: a Hasher tells the hash of all that was written, at any time; Sum changes nothing, asked once, twice, or at every byte.
func TestHasherAnyTime(t *testing.T) {
	b := drawBytes(source(), 3*128+5)
	h := sha.New()
	same(t, "Sum of a new Hasher", h.Sum(), sha.Sum(nil))
	for n := range b {
		h.Write(b[n : n+1])
		want := sha512.Sum512(b[:n+1])
		same(t, "Sum", h.Sum(), want)
		same(t, "Sum asked twice", h.Sum(), want)
	}
}

// P303: bytes parted in two at each place give one hash; a Sum between them changes nothing.
func TestPartsOfTwo(t *testing.T) {
	r := source()
	for _, n := range edges() {
		b := drawBytes(r, n)
		want := sha512.Sum512(b)
		for at := range n + 1 {
			same(t, "two parts", write(b[:at], b[at:]), want)
			h := sha.New()
			h.Write(b[:at])
			same(t, "the first part", h.Sum(), sha.Sum(b[:at]))
			h.Write(b[at:])
			same(t, "two parts, Sum between", h.Sum(), want)
		}
	}
}

// P303: parts of one size each, from 1 byte to more than two blocks.
func TestPartsOfOneSize(t *testing.T) {
	b := drawBytes(source(), 1000)
	want := sha512.Sum512(b)
	for size := 1; size < 300; size++ {
		same(t, "parts of one size", write(slices.Collect(slices.Chunk(b, size))...), want)
	}
}

// P303: parts drawn, empty ones and nil among them.
func TestPartsDrawn(t *testing.T) {
	r := source()
	for range 500 {
		b := drawBytes(r, r.IntN(900))
		h := sha.New()
		for rest := b; len(rest) > 0; {
			n := min(r.IntN(200), len(rest))
			h.Write(rest[:n])
			rest = rest[n:]
			h.Write(nil)
			if r.IntN(3) == 0 {
				h.Sum()
			}
		}
		same(t, "parts drawn", h.Sum(), sha512.Sum512(b))
	}
}

// P301, P303: empty Writes change nothing, ahead of, between and behind others, at the edge of a block too.
func TestEmptyWrites(t *testing.T) {
	same(t, "empty ones alone", write(nil, []byte{}, nil), sha.Sum(nil))
	for _, n := range edges() {
		b := drawBytes(source(), n)
		want := sha512.Sum512(b)
		same(t, "ahead", write(nil, []byte{}, b), want)
		same(t, "behind", write(b, nil, []byte{}), want)
		same(t, "between", write(b[:n/2], []byte{}, nil, b[n/2:]), want)
	}
}

// P301: of a nil Hasher: Write nothing, Sum noughts.
func TestNilHasher(t *testing.T) {
	var h *sha.Hasher
	same(t, "Sum", h.Sum(), hash{})
	h.Write(nil)
	h.Write([]byte("abc"))
	h.Write(make([]byte, 1000))
	same(t, "Sum behind Writes", h.Sum(), hash{})
	if h != nil || sha.New() == nil {
		t.Error("nil is no Hasher, and a new Hasher is not nil")
	}
}

// P301, rule 5: two Hashers share nothing.
func TestHashersApart(t *testing.T) {
	b := drawBytes(source(), 400)
	h, g := sha.New(), sha.New()
	for i := range b {
		h.Write(b[i : i+1])
		if i%2 == 0 {
			g.Write([]byte{0x55})
			g.Sum()
		}
	}
	same(t, "the one", h.Sum(), sha512.Sum512(b))
	same(t, "the other", g.Sum(), sha512.Sum512(bytes.Repeat([]byte{0x55}, 200)))
	same(t, "a third", sha.New().Sum(), sha.Sum(nil))
}

// P301, rule 4: what is handed in is not changed, its spare room neither.
func TestHandedInStays(t *testing.T) {
	for _, n := range edges() {
		room := drawBytes(source(), n+300)
		kept := slices.Clone(room)
		sha.Sum(room[:n])
		h := sha.New()
		h.Write(room[:n])
		h.Sum()
		h.Write(room[:n])
		h.Sum()
		if !bytes.Equal(room, kept) {
			t.Errorf("at %d bytes: what was handed in has changed", n)
		}
	}
}

// P301, rule 4: what is handed in is not kept: written over behind a Write, it changes no hash.
func TestHandedInNotKept(t *testing.T) {
	for _, n := range edges() {
		b := drawBytes(source(), n)
		twice := append(slices.Clone(b), b...)
		h := sha.New()
		room := slices.Clone(b)
		h.Write(room)
		clear(room)
		same(t, "written over", h.Sum(), sha512.Sum512(b))
		copy(room, b)
		h.Write(room)
		clear(room)
		same(t, "written over twice", h.Sum(), sha512.Sum512(twice))
	}
}

// P301, rule 4: a hash that is handed out is the caller's own.
func TestHandedOutIsNew(t *testing.T) {
	h := sha.New()
	h.Write([]byte("abc"))
	got := h.Sum()
	clear(got[:])
	same(t, "Sum", h.Sum(), sha.Sum([]byte("abc")))
}
