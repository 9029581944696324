package keccak_test

import (
	"bytes"
	"encoding/binary"
	"encoding/hex"
	"math/rand/v2"
	"slices"
	"testing"

	"conclave/api"
	"conclave/keccak"
)

func drawBytes(r *rand.Rand, n int) []byte {
	b := make([]byte, n)
	for i := range b {
		b[i] = byte(r.Uint32())
	}
	return b
}

// lengths: all up to four blocks and somewhat beyond, and the edges of greater ones.
func lengths() []int {
	var all []int
	for n := range 4*136 + 10 {
		all = append(all, n)
	}
	for _, blocks := range []int{8, 31, 482} {
		all = append(all, 136*blocks-1, 136*blocks, 136*blocks+1)
	}
	return all
}

// hashOf: the hash by the chapter's words, over the plain permutation: bytes, 01, noughts, 80 added to the last.
func hashOf(b []byte) api.Hash {
	b = append(slices.Clone(b), 1)
	b = append(b, make([]byte, (136-len(b)%136)%136)...)
	b[len(b)-1] += 0x80
	var s lanes
	for ; len(b) > 0; b = b[136:] {
		for i := range 17 {
			s[i] ^= binary.LittleEndian.Uint64(b[8*i:])
		}
		s = plain(s)
	}
	var h api.Hash
	for i := range 4 {
		binary.LittleEndian.PutUint64(h[8*i:], s[i])
	}
	return h
}

// write: the hash of parts, written one behind the other.
func write(parts ...[]byte) api.Hash {
	h := keccak.New()
	for _, p := range parts {
		h.Write(p)
	}
	return h.Sum()
}

func same(t *testing.T, what string, got, want api.Hash) {
	t.Helper()
	if got != want {
		t.Errorf("%s: %x, not %x", what, got, want)
	}
}

func hash(t *testing.T, text string) api.Hash {
	t.Helper()
	b, err := hex.DecodeString(text)
	if err != nil {
		t.Fatal(err)
	}
	return api.Hash(b)
}

// P202, example 1, and hashes that ledgers know: of the empty string's and the empty list's encodings, of texts.
func TestSumKnown(t *testing.T) {
	for _, x := range []struct{ text, want string }{
		{"", "c5d2460186f7233c927e7db2dcc703c0e500b653ca82273b7bfad8045d85a470"},
		{"abc", "4e03657aea45a94fc7d47ba826c8d667c0d1e6e33a64a036ec44f58fa12d6c45"},
		{"\x80", "56e81f171bcc55a6ff8345e692c0f86e5b48e01b996cadc001622fb5e363b421"},
		{"\xc0", "1dcc4de8dec75d7aab85b567b6ccd41ad312451b948a7413f0a142fd40d49347"},
		{"hello", "1c8aff950685c2ed4bc3174f3472287b56d9517b9c948127319a09a7a36deac8"},
		{"The quick brown fox jumps over the lazy dog", "4d741b6f1eb29cb2a9b9911c82f56fa8d73b04959d3d9d222895df6c0b28aa15"},
		{"The quick brown fox jumps over the lazy dog.", "578951e24efd62a3d63a86f7cd19aaa53c898fe287d2552133220370240b572d"},
	} {
		want := hash(t, x.want)
		same(t, "Sum of "+x.text, keccak.Sum([]byte(x.text)), want)
		same(t, "Hasher of "+x.text, write([]byte(x.text)), want)
	}
	same(t, "Sum of nil", keccak.Sum(nil), hash(t, "c5d2460186f7233c927e7db2dcc703c0e500b653ca82273b7bfad8045d85a470"))
}

// P202: Sum and a Hasher at each length around the edges of blocks, of bytes drawn, of noughts and of ones.
func TestSumLengths(t *testing.T) {
	r := source()
	for _, n := range lengths() {
		for _, b := range [][]byte{drawBytes(r, n), make([]byte, n), bytes.Repeat([]byte{0xff}, n)} {
			want := hashOf(b)
			same(t, "Sum", keccak.Sum(b), want)
			same(t, "Hasher", write(b), want)
			if t.Failed() {
				t.Fatalf("at %d bytes", n)
			}
		}
	}
}

// P202: a text is told apart from the same with the padding's bytes behind it.
func TestSumPadding(t *testing.T) {
	seen := map[api.Hash]int{}
	for n := range 300 {
		b := make([]byte, n)
		seen[keccak.Sum(b)]++
		seen[keccak.Sum(append(b, 0x01))]++
		seen[keccak.Sum(append(b, 0x81))]++
	}
	if len(seen) != 900 {
		t.Errorf("%d hashes of 900 texts", len(seen))
	}
}

// P202: a Hasher tells the hash of all that was written, at any time; Sum changes nothing, asked once, twice, or at every byte.
func TestHasherAnyTime(t *testing.T) {
	b := drawBytes(source(), 3*136+5)
	h := keccak.New()
	same(t, "Sum of a new Hasher", h.Sum(), keccak.Sum(nil))
	for n := range b {
		h.Write(b[n : n+1])
		want := hashOf(b[:n+1])
		same(t, "Sum", h.Sum(), want)
		same(t, "Sum asked twice", h.Sum(), want)
	}
}

// P203: bytes parted in two at each place give one hash; a Sum between them changes nothing.
func TestPartsOfTwo(t *testing.T) {
	r := source()
	for _, n := range []int{0, 1, 2, 135, 136, 137, 271, 272, 273, 408, 500} {
		b := drawBytes(r, n)
		want := hashOf(b)
		for at := range n + 1 {
			same(t, "two parts", write(b[:at], b[at:]), want)
			h := keccak.New()
			h.Write(b[:at])
			same(t, "the first part", h.Sum(), keccak.Sum(b[:at]))
			h.Write(b[at:])
			same(t, "two parts, Sum between", h.Sum(), want)
		}
	}
}

// P203: parts of one size each, from 1 byte to more than two blocks.
func TestPartsOfOneSize(t *testing.T) {
	b := drawBytes(source(), 1000)
	want := hashOf(b)
	for size := 1; size < 300; size++ {
		same(t, "parts of one size", write(slices.Collect(slices.Chunk(b, size))...), want)
	}
}

// P203: parts drawn, empty ones and nil among them.
func TestPartsDrawn(t *testing.T) {
	r := source()
	for range 500 {
		b := drawBytes(r, r.IntN(900))
		h := keccak.New()
		for rest := b; len(rest) > 0; {
			n := min(r.IntN(200), len(rest))
			h.Write(rest[:n])
			rest = rest[n:]
			h.Write(nil)
			if r.IntN(3) == 0 {
				h.Sum()
			}
		}
		same(t, "parts drawn", h.Sum(), hashOf(b))
	}
}

// P202, P203: empty Writes change nothing, ahead of, between and behind others, at the edge of a block too.
func TestEmptyWrites(t *testing.T) {
	same(t, "empty ones alone", write(nil, []byte{}, nil), keccak.Sum(nil))
	for _, n := range []int{1, 135, 136, 137, 272} {
		b := drawBytes(source(), n)
		want := hashOf(b)
		same(t, "ahead", write(nil, []byte{}, b), want)
		same(t, "behind", write(b, nil, []byte{}), want)
		same(t, "between", write(b[:n/2], []byte{}, nil, b[n/2:]), want)
	}
}

// P202: of a nil Hasher: Write nothing, Sum the zero hash.
func TestNilHasher(t *testing.T) {
	var h *keccak.Hasher
	same(t, "Sum", h.Sum(), api.Hash{})
	h.Write(nil)
	h.Write([]byte("abc"))
	h.Write(make([]byte, 1000))
	same(t, "Sum behind Writes", h.Sum(), api.Hash{})
	if h != nil || keccak.New() == nil {
		t.Error("nil is no Hasher, and a new Hasher is not nil")
	}
}

// P202, rule 5: two Hashers share nothing.
func TestHashersApart(t *testing.T) {
	b := drawBytes(source(), 400)
	h, g := keccak.New(), keccak.New()
	for i := range b {
		h.Write(b[i : i+1])
		if i%2 == 0 {
			g.Write([]byte{0x55})
			g.Sum()
		}
	}
	same(t, "the one", h.Sum(), hashOf(b))
	same(t, "the other", g.Sum(), hashOf(bytes.Repeat([]byte{0x55}, 200)))
}

// P202, rule 4: what is handed in is not changed, its spare room neither.
func TestHandedInStays(t *testing.T) {
	for _, n := range []int{0, 1, 135, 136, 137, 271, 272, 600} {
		room := drawBytes(source(), n+300)
		kept := slices.Clone(room)
		keccak.Sum(room[:n])
		h := keccak.New()
		h.Write(room[:n])
		h.Sum()
		h.Write(room[:n])
		h.Sum()
		if !bytes.Equal(room, kept) {
			t.Errorf("at %d bytes: what was handed in has changed", n)
		}
	}
}

// P202, rule 4: what is handed in is not kept: written over behind a Write, it changes no hash.
func TestHandedInNotKept(t *testing.T) {
	for _, n := range []int{1, 100, 135, 136, 137, 300} {
		b := drawBytes(source(), n)
		twice := append(slices.Clone(b), b...)
		once, both := hashOf(b), hashOf(twice)
		h := keccak.New()
		room := slices.Clone(b)
		h.Write(room)
		clear(room)
		same(t, "written over", h.Sum(), once)
		copy(room, b)
		h.Write(room)
		clear(room)
		same(t, "written over twice", h.Sum(), both)
	}
}

// P202, rule 4: a hash that is handed out is the caller's own.
func TestHandedOutIsNew(t *testing.T) {
	h := keccak.New()
	h.Write([]byte("abc"))
	got := h.Sum()
	clear(got[:])
	same(t, "Sum", h.Sum(), keccak.Sum([]byte("abc")))
}
