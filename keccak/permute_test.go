package keccak_test

import (
	"crypto/sha3"
	"encoding/binary"
	"math/bits"
	"math/rand/v2"
	"testing"

	"conclave/keccak"
)

type lanes = [25]uint64

// source: numbers that look drawn and are the same in each run.
func source() *rand.Rand { return rand.New(rand.NewPCG(2, 203)) }

func drawLanes(r *rand.Rand) lanes {
	var s lanes
	for i := range s {
		s[i] = r.Uint64()
	}
	return s
}

// edges: noughts, ones, and all states that differ from either in one bit.
func edges() []lanes {
	var full lanes
	for i := range full {
		full[i] = ^uint64(0)
	}
	all := []lanes{{}, full}
	for i := range 25 * 64 {
		one, hole := lanes{}, full
		one[i/64] ^= 1 << (i % 64)
		hole[i/64] ^= 1 << (i % 64)
		all = append(all, one, hole)
	}
	return all
}

// states: the edges, and others drawn.
func states() []lanes {
	all := edges()
	r := source()
	for range 1000 {
		all = append(all, drawLanes(r))
	}
	return all
}

// plain: Keccak-f[1600] by the chapter's words, one step behind the other.
func plain(s lanes) lanes {
	register := 1
	for range 24 {
		s = plainChi(plainMove(plainTheta(s)))
		for j := range 7 {
			s[0] ^= uint64(register&1) << (1<<j - 1)
			register <<= 1
			if register > 0xff {
				register = register&0xff ^ 0x71
			}
		}
	}
	return s
}

func plainTheta(s lanes) lanes {
	var sum [5]uint64
	for i := range s {
		sum[i%5] ^= s[i]
	}
	for i := range s {
		s[i] ^= sum[(i%5+4)%5] ^ bits.RotateLeft64(sum[(i%5+1)%5], 1)
	}
	return s
}

func plainMove(s lanes) lanes {
	var offset [25]int
	for t, x, y := 0, 1, 0; t < 24; t++ {
		offset[x+5*y] = (t + 1) * (t + 2) / 2 % 64
		x, y = y, (2*x+3*y)%5
	}
	var m lanes
	for x := range 5 {
		for y := range 5 {
			m[y+5*((2*x+3*y)%5)] = bits.RotateLeft64(s[x+5*y], offset[x+5*y])
		}
	}
	return m
}

func plainChi(s lanes) lanes {
	c := s
	for y := 0; y < 25; y += 5 {
		for x := range 5 {
			c[x+y] ^= ^s[(x+1)%5+y] & s[(x+2)%5+y]
		}
	}
	return c
}

// sponge: n bytes out of a hash over Permute with blocks of rate bytes, whose padding begins with mark.
func sponge(b []byte, mark byte, rate, n int) []byte {
	b = append(append([]byte{}, b...), mark)
	for len(b)%rate != 0 {
		b = append(b, 0)
	}
	b[len(b)-1] |= 0x80
	var s lanes
	for ; len(b) > 0; b = b[rate:] {
		for i := range rate / 8 {
			s[i] ^= binary.LittleEndian.Uint64(b[8*i:])
		}
		s = keccak.Permute(s)
	}
	var out []byte
	for ; len(out) < n; s = keccak.Permute(s) {
		for i := range rate / 8 {
			out = binary.LittleEndian.AppendUint64(out, s[i])
		}
	}
	return out[:n]
}

// P201, example 1: all that Permute makes of the zero state.
func TestPermuteZero(t *testing.T) {
	want := lanes{
		0xf1258f7940e1dde7, 0x84d5ccf933c0478a, 0xd598261ea65aa9ee, 0xbd1547306f80494d, 0x8b284e056253d057,
		0xff97a42d7f8e6fd4, 0x90fee5a0a44647c4, 0x8c5bda0cd6192e76, 0xad30a6f71b19059c, 0x30935ab7d08ffc64,
		0xeb5aa93f2317d635, 0xa9a6e6260d712103, 0x81a57c16dbcf555f, 0x43b831cd0347c826, 0x01f22f1a11a5569f,
		0x05e5635a21d9ae61, 0x64befef28cc970f2, 0x613670957bc46611, 0xb87c5a554fd00ecb, 0x8c3ee88a1ccf32c8,
		0x940c7922ae3a2614, 0x1841f924a2c509e4, 0x16f53526e70465c2, 0x75f644e97f30a13b, 0xeaf1ff7b5ceca249,
	}
	if got := keccak.Permute(lanes{}); got != want {
		t.Errorf("Permute of noughts: %x, not %x", got, want)
	}
	if got := keccak.Undo(want); got != (lanes{}) {
		t.Errorf("Undo of Permute of noughts: %x, not noughts", got)
	}
}

// P201: Permute is what the chapter's words say, step by step.
func TestPermutePlain(t *testing.T) {
	for _, s := range states() {
		if got, want := keccak.Permute(s), plain(s); got != want {
			t.Fatalf("Permute(%x): %x, not %x", s, got, want)
		}
	}
}

// P201: hashes of the library that stand on the same permutation come out of Permute.
func TestPermuteLibrary(t *testing.T) {
	r := source()
	for n := range 400 {
		b := drawBytes(r, n)
		if got, want := sponge(b, 0x06, 136, 32), sha3.Sum256(b); string(got) != string(want[:]) {
			t.Fatalf("SHA3-256 of %d bytes over Permute: %x, not %x", n, got, want)
		}
		if got, want := sponge(b, 0x1f, 168, 500), sha3.SumSHAKE128(b, 500); string(got) != string(want) {
			t.Fatalf("SHAKE128 of %d bytes over Permute: %x, not %x", n, got, want)
		}
	}
}

// P201: Undo answers the state of which Permute makes this one; what Permute made of it is asked of the plain one, so that the two can't be wrong together.
func TestUndo(t *testing.T) {
	for _, s := range states() {
		if got := keccak.Undo(plain(s)); got != s {
			t.Fatalf("Undo: %x, not %x", got, s)
		}
	}
}

// P203: Undo and Permute take each other back, whichever comes first.
func TestBothWays(t *testing.T) {
	for _, s := range states() {
		if got := keccak.Undo(keccak.Permute(s)); got != s {
			t.Fatalf("Undo of Permute: %x, not %x", got, s)
		}
		if got := keccak.Permute(keccak.Undo(s)); got != s {
			t.Fatalf("Permute of Undo: %x, not %x", got, s)
		}
	}
}

// P203: many times forth, as many times back.
func TestBothWaysFar(t *testing.T) {
	begin := drawLanes(source())
	s := begin
	for range 500 {
		s = keccak.Permute(s)
	}
	for range 500 {
		s = keccak.Undo(s)
	}
	if s != begin {
		t.Errorf("500 times forth and back: %x, not %x", s, begin)
	}
}

// P201, rule 5: the same state has the same answer, asked again; rule 4: the state that is handed in stays.
func TestPermuteStays(t *testing.T) {
	s := drawLanes(source())
	kept := s
	forth, back := keccak.Permute(s), keccak.Undo(s)
	if s != kept {
		t.Errorf("what was handed in has changed: %x, not %x", s, kept)
	}
	if keccak.Permute(s) != forth || keccak.Undo(s) != back {
		t.Error("asked again, the answer is another")
	}
}
