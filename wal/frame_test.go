package wal_test

import (
	"bytes"
	"fmt"
	"hash/crc32"
	"math/rand/v2"
	"slices"
	"strings"
	"testing"

	"conclave/api"
	"conclave/wal"
)

// plainSum: the words' CRC-32, bit by bit.
func plainSum(b []byte) uint32 {
	s := uint32(0xffffffff)
	for _, c := range b {
		for i := range 8 {
			out := s&1 ^ uint32(c>>i&1)
			s >>= 1
			if out == 1 {
				s ^= 0xEDB88320
			}
		}
	}
	return s ^ 0xffffffff
}

// P801: Sum of nothing, of all single bytes and pairs, of known texts and of drawn ones.
func TestSum(t *testing.T) {
	for s, want := range map[string]uint32{"": 0, "a": 0xe8b7be43, "abc": 0x352441c2, "123456789": 0xcbf43926, "\x00": 0xd202ef8d, "\xff": 0xff000000, "\x00\x00\x00\x01": 0x5643ef8a, strings.Repeat("\x00", 32): 0x190a55ad} {
		if got := wal.Sum([]byte(s)); got != want {
			t.Errorf("Sum of %q: %x, not %x", s, got, want)
		}
	}
	if wal.Sum(nil) != 0 {
		t.Errorf("Sum of nil: %x", wal.Sum(nil))
	}
	sums := func(b []byte) {
		if got := wal.Sum(b); got != plainSum(b) || got != crc32.ChecksumIEEE(b) {
			t.Fatalf("Sum of %.99x: %x, not %x", b, got, plainSum(b))
		}
	}
	for a := range 256 {
		sums([]byte{byte(a)})
		for b := range 256 {
			sums([]byte{byte(a), byte(b)})
		}
	}
	r := rand.New(rand.NewPCG(8, 1))
	for n := range 300 {
		sums(drawn(r, n))
	}
	sums(drawn(r, api.MaxRecord))
	sums(drawn(r, 1<<20))
}

func drawn(r *rand.Rand, n int) []byte {
	b := make([]byte, n)
	for i := range b {
		b[i] = byte(r.Uint32())
	}
	return b
}

// P801: the chapter's example, and the bytes of other frames.
func TestFrame(t *testing.T) {
	for s, want := range map[string]string{
		"":       "00000000 2144df1c 00000000",
		"a":      "00000001 5643ef8a e8b7be43 61",
		"\x00":   "00000001 5643ef8a d202ef8d 00",
		"abc":    "00000003 b84d8ea6 352441c2 616263",
		"\xff\a": "",
	} {
		if want == "" {
			want = fmt.Sprintf("%x", framed(s))
		}
		if got := fmt.Sprintf("%x", wal.Frame([]byte(s))); got != strings.ReplaceAll(want, " ", "") {
			t.Errorf("Frame of %q: %s, not %s", s, got, want)
		}
	}
	if got := wal.Frame(nil); string(got) != framed("") {
		t.Errorf("Frame of nil: %x", got)
	}
	r := rand.New(rand.NewPCG(8, 2))
	for _, n := range []int{2, 100, 255, 256, 257, 65535, 65536, 65537, 1 << 20} {
		b := drawn(r, n)
		if got := wal.Frame(b); string(got) != framed(string(b)) {
			t.Errorf("Frame of %d bytes: %.20x", n, got)
		}
	}
}

// next: Next of bytes is an error, and nothing beside it.
func next(t *testing.T, what string, b []byte, want api.Errno) {
	t.Helper()
	if record, n, err := wal.Next(b); len(record) != 0 || n != 0 || err != want {
		t.Errorf("%s: %.20x, %d, %d, not %d", what, record, n, err, want)
	}
}

// P801: Next of frames of 0 to MaxRecord bytes, whole, with more behind, and cut off at each place; one byte more than MaxRecord is ErrRot.
func TestNext(t *testing.T) {
	r := rand.New(rand.NewPCG(8, 3))
	for _, n := range []int{0, 1, 2, 12, 255, 256, 65535, api.MaxRecord} {
		b := drawn(r, n)
		f := wal.Frame(b)
		for _, more := range []string{"", "\x00", "more", string(f)} {
			record, size, err := wal.Next(append(slices.Clone(f), more...))
			if !bytes.Equal(record, b) || size != n+12 || err != api.OK {
				t.Errorf("Next of %d bytes, and %d: %.20x, %d, %d", n, len(more), record, size, err)
			}
		}
		for _, cut := range []int{0, 1, 3, 4, 7, 8, 11, 12, 13, n, n + 1, n + 10, n + 11} {
			if cut < n+12 {
				next(t, fmt.Sprint("a frame of ", n, " cut at ", cut), f[:cut], api.ErrEnd)
				next(t, fmt.Sprint("a frame of ", n, " cut at ", cut, ", no room behind"), slices.Clone(f[:cut]), api.ErrEnd)
			}
		}
	}
	f := wal.Frame(drawn(r, api.MaxRecord+1))
	next(t, "one byte too many", f, api.ErrRot)
	next(t, "one byte too many, cut", f[:12], api.ErrRot)
	next(t, "one byte too many, cut ahead", f[:11], api.ErrEnd)
	next(t, "nil", nil, api.ErrEnd)
}

// P801: each other byte at each place of a frame is ErrRot, whatever the length would tell.
func TestNextRot(t *testing.T) {
	for _, s := range []string{"", "a", "record"} {
		for _, more := range []string{"", "bytes behind it, as many as some lengths would tell"} {
			f := []byte(framed(s) + more)
			for at := range 12 + len(s) {
				for by := 1; by < 256; by++ {
					f[at] ^= byte(by)
					next(t, fmt.Sprintf("%x", f), f, api.ErrRot)
					f[at] ^= byte(by)
				}
			}
		}
	}
}

// head: the first eight bytes of a frame that tells a length, with its sum.
func head(told uint32) []byte {
	b := []byte{byte(told >> 24), byte(told >> 16), byte(told >> 8), byte(told)}
	s := crc32.ChecksumIEEE(b)
	return append(b, byte(s>>24), byte(s>>16), byte(s>>8), byte(s))
}

// P801: lengths with a right sum: beyond MaxRecord it is ErrRot, though bytes are missing; up to it ErrEnd, though the second sum is wrong.
func TestNextOrder(t *testing.T) {
	for _, told := range []uint32{65537, 65538, 1 << 17, 1<<31 - 1, 1 << 31, 1<<32 - 12, 1<<32 - 1} {
		next(t, fmt.Sprint("told ", told), append(head(told), 0, 0, 0, 0), api.ErrRot)
		next(t, fmt.Sprint("told ", told, ", many bytes"), append(head(told), make([]byte, 1<<17)...), api.ErrRot)
		next(t, fmt.Sprint("told ", told, ", 11 bytes"), append(head(told), 0, 0, 0), api.ErrEnd)
	}
	for _, told := range []uint32{1, 2, 65535, 65536} {
		short := append(head(told), "sum?"...)
		next(t, fmt.Sprint("told ", told, ", nothing there"), short, api.ErrEnd)
		next(t, fmt.Sprint("told ", told, ", one less"), append(short, make([]byte, told-1)...), api.ErrEnd)
		next(t, fmt.Sprint("told ", told, ", the second sum wrong"), append(short, make([]byte, told)...), api.ErrRot)
		wrong := slices.Clone(short)
		wrong[7] ^= 1
		next(t, fmt.Sprint("told ", told, ", the first sum wrong, cut"), wrong, api.ErrRot)
		next(t, fmt.Sprint("told ", told, ", the first sum wrong, 11 bytes"), wrong[:11], api.ErrEnd)
	}
	next(t, "told 0, the second sum wrong", append(head(0), 0, 0, 0, 1), api.ErrRot)
	next(t, "all ones, of which the first sum is right", bytes.Repeat([]byte{0xff}, 12), api.ErrRot)
	next(t, "noughts", make([]byte, 100), api.ErrRot)
}
