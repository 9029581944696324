package rlp_test

import (
	"bytes"
	"slices"
	"testing"

	"conclave/api"
	"conclave/rlp"
)

// P602, P604: all texts of no, one and two bytes, and those of three and more out of bytes about which heads change: just encodings are taken.
func TestDecodeShort(t *testing.T) {
	decodes(t, nil)
	decodes(t, []byte{})
	for a := range 256 {
		decodes(t, []byte{byte(a)})
		for b := range 256 {
			decodes(t, []byte{byte(a), byte(b)})
		}
	}
	edges := []byte{0, 1, 2, 0x37, 0x38, 0x7f, 0x80, 0x81, 0x82, 0x83, 0xb7, 0xb8, 0xb9, 0xbf, 0xc0, 0xc1, 0xc2, 0xc3, 0xc4, 0xf7, 0xf8, 0xf9, 0xff}
	var all func(b []byte, more int)
	all = func(b []byte, more int) {
		decodes(t, b)
		if more > 0 {
			for _, c := range edges {
				all(append(slices.Clip(b), c), more-1)
			}
		}
	}
	all(nil, 4)
}

// P602: each encoding, whole, with a byte behind it, and cut off at each place.
func TestDecodeCut(t *testing.T) {
	for _, x := range []rlp.Item{
		str(), str(5), str(0x80), str(1, 2, 3), {Bytes: some(55)}, {Bytes: some(56)}, {Bytes: some(255)}, {Bytes: some(256)},
		list(), list(str()), list(str(1), list(), str(0xff)), list(rlp.Item{Bytes: some(54)}), list(rlp.Item{Bytes: some(55)}),
		list(rlp.Item{Bytes: some(253)}), list(rlp.Item{Bytes: some(254)}), inside(str(9), 16), list(list(str(1), list(rlp.Item{Bytes: some(60)})), str(3)),
	} {
		b := plainBytes(x)
		if err := decodes(t, b); err != api.OK {
			t.Errorf("Decode of Encode of %.99s: %v", seen(x), err)
		}
		for n := range len(b) {
			fails(t, b[:n], api.ErrEnd)
			fails(t, slices.Clone(b[:n]), api.ErrEnd)
		}
		for c := range 256 {
			more := append(slices.Clone(b), byte(c))
			if y, n, err := rlp.First(more); err != api.OK || n != len(b) || seen(y) != seen(x) {
				t.Errorf("First of %.99x: %.99s, %d, %v", more, seen(y), n, err)
			}
			if y, err := rlp.Decode(more); err != api.ErrRlp || seen(y) != "" {
				t.Errorf("Decode of %.99x: %.99s, %v", more, seen(y), err)
			}
		}
	}
}

// P602: every head with too few bytes behind it: one less than the head needs, one less than it tells.
func TestDecodeFew(t *testing.T) {
	for c := 0x81; c < 256; c++ {
		short := c&0x3f <= 55
		if short {
			n := c & 0x3f
			for got := range n {
				fails(t, append([]byte{byte(c)}, bytes.Repeat([]byte{0xfe}, got)...), api.ErrEnd)
			}
			continue
		}
		many := c&0x3f - 55
		for got := range many {
			fails(t, append([]byte{byte(c)}, bytes.Repeat([]byte{1}, got)...), api.ErrEnd)
		}
		for _, first := range []byte{1, 56, 0x7f, 0x80, 0xff} { // as great as 8 bytes can tell among them
			head := append([]byte{byte(c)}, bytes.Repeat([]byte{first}, many)...)
			if many == 1 && first < 56 {
				continue
			}
			fails(t, head, api.ErrEnd)
			fails(t, append(head, some(55)...), api.ErrEnd)
			if many > 2 || many == 2 && first > 1 {
				fails(t, append(head, some(300)...), api.ErrEnd)
			}
			if many > 2 {
				fails(t, append(head, make([]byte, api.MaxRlp-len(head))...), api.ErrEnd)
			}
		}
	}
}

// P602: lengths about the greatest numbers, at which a sum with a place could leave its type.
func TestDecodeGreat(t *testing.T) {
	for _, c := range []string{"bf", "ff"} {
		for _, n := range []string{"ffffffffffffffff", "fffffffffffffff7", "fffffffffffffff6", "8000000000000000", "7fffffffffffffff", "7ffffffffffffff6", "7ffffffffffffff7", "0100000000000000"} {
			b := unhex(t, c+n)
			fails(t, b, api.ErrEnd)
			fails(t, append(b, some(100)...), api.ErrEnd)
			fails(t, append(unhex(t, "f86d"), append(b, some(100)...)...), api.ErrEnd)
		}
	}
	fails(t, unhex(t, "bb ffffffff"), api.ErrEnd)
	fails(t, unhex(t, "fb 80000000"), api.ErrEnd)
	fails(t, unhex(t, "bb 7fffffff"), api.ErrEnd)
}

// P602: ErrRlp of a byte below 80 with a head, of lengths that begin with 0 or tell less than 56, at the top and inside lists.
func TestDecodeOtherwise(t *testing.T) {
	var wrong [][]byte
	for c := range 0x80 {
		wrong = append(wrong, []byte{0x81, byte(c)})
	}
	for n := range 56 {
		wrong = append(wrong, append([]byte{0xb8, byte(n)}, some(n)...), append([]byte{0xf8, byte(n)}, bytes.Repeat([]byte{1}, n)...))
	}
	for many := 2; many <= 8; many++ {
		for _, kind := range []byte{0xb7, 0xf7} {
			head := make([]byte, 1+many)
			head[0], head[many] = kind+byte(many), 60
			wrong = append(wrong, append(head, bytes.Repeat([]byte{1}, 60)...))
			head = slices.Clone(head)
			head[many] = 5
			wrong = append(wrong, append(head, bytes.Repeat([]byte{1}, 5)...))
		}
	}
	for _, b := range wrong {
		fails(t, b, api.ErrRlp)
		fails(t, append(slices.Clone(b), 1), api.ErrRlp)
		fails(t, append(plainHead(0xc0, 0xf7, len(b)), b...), api.ErrRlp)
		fails(t, append(plainHead(0xc0, 0xf7, len(b)+2), append([]byte{1, 0xc0}, b...)...), api.ErrRlp)
		decodes(t, b)
	}
	for c := 0x80; c < 256; c++ {
		if x, err := rlp.Decode([]byte{0x81, byte(c)}); err != api.OK || seen(x) != seen(str(byte(c))) {
			t.Errorf("Decode of 81 %x: %s, %v", c, seen(x), err)
		}
	}
}

// P602: items that do not end where their list does: though the bytes go on it is ErrRlp; where they do not, ErrEnd is met as the item is read.
func TestDecodeEnds(t *testing.T) {
	for _, c := range []struct {
		b   string
		err api.Errno
	}{
		{"c1 81 80", api.ErrRlp},
		{"c1 81", api.ErrEnd},
		{"c2 83 61 62 63", api.ErrRlp},
		{"c2 83 61", api.ErrEnd},
		{"c2 83 61 62", api.ErrEnd},
		{"c3 01 82 01 02", api.ErrRlp},
		{"c1 c1 01", api.ErrRlp},
		{"c1 c1", api.ErrEnd},
		{"c2 c0 c1 05", api.ErrRlp},
		{"c3 c2 83 61 62 63", api.ErrRlp},
		{"c4 c1 83 61 62 63", api.ErrRlp},
		{"c3 c1 83 61", api.ErrEnd},
		{"c1 b8", api.ErrEnd},
		{"c2 b9 01", api.ErrEnd},
		{"c3 01 02", api.ErrEnd},
		{"c2 01 02 03", api.OK},
	} {
		b := unhex(t, c.b)
		if _, _, err := rlp.First(b); err != c.err {
			t.Errorf("First of %s: %v, not %v", c.b, err, c.err)
		}
		decodes(t, b)
	}
	b := append(unhex(t, "c2 b8 38"), some(56)...)
	fails(t, b, api.ErrRlp)
	fails(t, append(b, 1), api.ErrRlp)
	fails(t, b[:len(b)-1], api.ErrEnd)
	b = append(unhex(t, "c1 f8 38"), bytes.Repeat([]byte{1}, 56)...)
	fails(t, b, api.ErrRlp)
}

// P602: which error is met first where there are two.
func TestDecodeFirstError(t *testing.T) {
	for _, c := range []struct {
		b   string
		err api.Errno
	}{
		{"c3 81 05", api.ErrEnd},                   // a list's head ahead of its items
		{"c5 81 05 83 01", api.ErrEnd},             // so with two items
		{"c4 81 05 83 01", api.ErrRlp},             // the item on the left
		{"c2 83 01 81 05", api.ErrRlp},             // 83 has its bytes, but not in the list
		{"c3 83 01 81 05", api.ErrRlp},             // so too
		{"c4 b8 38 81 05", api.ErrEnd},             // the item on the left
		{"c4 81 05 b8 38", api.ErrRlp},             // the same, the other way round
		{"b9 00", api.ErrEnd},                      // a head that needs one byte more
		{"b9 00 38", api.ErrRlp},                   // a head's own bytes ahead of what it tells
		{"b8 37", api.ErrRlp},                      // so too
		{"f8 37 01", api.ErrRlp},                   // so too
		{"f9 00 ff", api.ErrRlp},                   // so too
		{"bf 00 ff ff ff ff ff ff ff", api.ErrRlp}, // so too
		{"81", api.ErrEnd},
		{"81 05 81", api.ErrRlp},
		{"c1 c1 83", api.ErrEnd},    // inside an item that goes beyond its list
		{"c1 c2 81 05", api.ErrRlp}, // so too
		{"c1 c3 81 05", api.ErrEnd}, // the inner head ahead of its items
		{"05 81", api.OK},
	} {
		b := unhex(t, c.b)
		if _, _, err := rlp.First(b); err != c.err {
			t.Errorf("First of %s: %v, not %v", c.b, err, c.err)
		}
		decodes(t, b)
	}
	long := make([]byte, api.MaxRlp+1)
	for _, start := range []string{"", "81 05", "b9 00 38", "bf ff ff ff ff ff ff ff ff", "c1 c1"} {
		copy(long, unhex(t, start))
		fails(t, long, api.ErrBig) // how many there are stands ahead of all
	}
}

// P602: a list within MaxRlpDeep others: its head is met ahead of that, its items behind it.
func TestDecodeDeep(t *testing.T) {
	for n := range 40 {
		for _, x := range []rlp.Item{str(), str(7), list(), list(str())} {
			b := plainBytes(inside(x, n))
			want := api.OK
			if n+lists(x) > api.MaxRlpDeep {
				want = api.ErrBig
			}
			if err := decodes(t, b); err != want {
				t.Errorf("Decode of %s within %d lists: %v, not %v", seen(x), n, err, want)
			}
			decodes(t, plainBytes(list(str(1), inside(x, n), str(2))))
			decodes(t, append(b, 0))
		}
	}
	within := func(n int, b ...byte) []byte {
		for range n {
			b = append(plainHead(0xc0, 0xf7, len(b)), b...)
		}
		return b
	}
	fails(t, within(16, 0xc1), api.ErrEnd)
	fails(t, within(16, 0xf8), api.ErrEnd)
	fails(t, within(16, 0xf8, 1, 1), api.ErrRlp)
	fails(t, within(16, 0xc2, 0x81, 5), api.ErrBig)
	fails(t, within(16, 0xc1, 0x83), api.ErrBig)
	fails(t, within(16, 0x81, 5, 0xc0), api.ErrRlp)
	fails(t, within(16, 0xc0, 0x81, 5), api.ErrBig)
	fails(t, within(15, 0xc2, 0x81, 5), api.ErrRlp)
	fails(t, within(15, 0xc1, 0x83), api.ErrEnd)
	fails(t, append(within(16, 0xc0), 1), api.ErrBig)
	fails(t, within(1000, 0xc0), api.ErrBig)
	fails(t, bytes.Repeat([]byte{0xc1}, 17), api.ErrEnd) // ahead of it nothing lacks but at the last
	fails(t, bytes.Repeat([]byte{0xc1}, 18), api.ErrBig)
}

// P602: texts of MaxRlp bytes and of one more, whatever they hold.
func TestDecodeMost(t *testing.T) {
	for _, n := range []int{api.MaxRlp - 1, api.MaxRlp} {
		for _, x := range []rlp.Item{{Bytes: some(n - 3)}, list(rlp.Item{Bytes: some(n - 6)}), {List: true, Items: make([]rlp.Item, n-3)}} {
			if err := decodes(t, plainBytes(x)); err != api.OK {
				t.Errorf("Decode of %d bytes: %v", n, err)
			}
		}
		b := make([]byte, n)
		if x, took, err := rlp.First(b); seen(x) != "00" || took != 1 || err != api.OK {
			t.Errorf("First of %d noughts: %s, %d, %v", n, seen(x), took, err)
		}
		fails(t, append([]byte{0x81}, b[1:]...), api.ErrRlp)
	}
	for _, n := range []int{api.MaxRlp + 1, api.MaxRlp + 2, 1 << 20} {
		fails(t, make([]byte, n), api.ErrBig)
		fails(t, plainBytes(rlp.Item{Bytes: some(n - 3)}), api.ErrBig)
		fails(t, plainBytes(list(rlp.Item{Bytes: some(n - 6)})), api.ErrBig)
	}
}

// P602, P604: encodings with a byte changed, left out or put in, and texts of drawn bytes.
func TestDecodeDrawn(t *testing.T) {
	r := source()
	taken := 0
	for range 20000 {
		b := plainBytes(draw(r, 4))
		if len(b) > 2000 {
			continue
		}
		i := r.IntN(len(b))
		switch r.IntN(4) {
		case 0:
			b[i] = byte(r.Uint32())
		case 1:
			b = slices.Delete(b, i, i+1)
		case 2:
			b = slices.Insert(b, i, byte(r.Uint32()))
		case 3:
			b[0] += byte(r.IntN(3)) - 1
		}
		if decodes(t, b) == api.OK {
			taken++
		}
	}
	for range 20000 {
		b := make([]byte, r.IntN(12))
		for i := range b {
			b[i] = []byte{byte(r.Uint32()), 0x80 + byte(r.IntN(4)), 0xc0 + byte(r.IntN(10))}[r.IntN(3)]
		}
		if decodes(t, b) == api.OK {
			taken++
		}
	}
	if taken < 2000 {
		t.Errorf("%d texts were taken: the test shows little", taken)
	}
}
