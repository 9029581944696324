package rlp_test

import (
	"bytes"
	"testing"

	"conclave/api"
	"conclave/rlp"
)

// P601: Encode of nothing, of each single byte (at and on either side of 80 among them), of bytes about the lengths at which heads change.
func TestEncodeBytes(t *testing.T) {
	encodes(t, rlp.Item{})
	for c := range 256 {
		encodes(t, str(byte(c)))
		encodes(t, str(byte(c), 0))
		encodes(t, str(0, byte(c)))
	}
	for _, n := range []int{2, 3, 54, 55, 56, 57, 127, 128, 254, 255, 256, 257, 1000, 65279, 65280} {
		encodes(t, rlp.Item{Bytes: some(n)})
		encodes(t, rlp.Item{Bytes: make([]byte, n)})
	}
}

// P601: the heads as the chapter writes them.
func TestEncodeHeads(t *testing.T) {
	for _, c := range []struct {
		x    rlp.Item
		head string
		n    int
	}{
		{str(0x7f), "", 1},
		{str(0x80), "81", 1},
		{str(0x81), "81", 1},
		{rlp.Item{Bytes: some(55)}, "b7", 55},
		{rlp.Item{Bytes: some(56)}, "b838", 56},
		{rlp.Item{Bytes: some(255)}, "b8ff", 255},
		{rlp.Item{Bytes: some(256)}, "b90100", 256},
		{list(rlp.Item{Bytes: some(54)}), "f7", 55},
		{list(rlp.Item{Bytes: some(55)}), "f838", 56},
		{list(rlp.Item{Bytes: some(253)}), "f8ff", 255},
		{list(rlp.Item{Bytes: some(254)}), "f90100", 256},
	} {
		got, err := rlp.Encode(c.x)
		head := unhex(t, c.head)
		if err != api.OK || !bytes.HasPrefix(got, head) || len(got) != len(head)+c.n {
			t.Errorf("Encode of %.99s: %x, %v: not a head %s and %d bytes", seen(c.x), got, err, c.head, c.n)
		}
	}
}

// P601: Encode of lists whose items take about 55 and 56, 255 and 256 bytes, in one item and in many.
func TestEncodeLists(t *testing.T) {
	encodes(t, list())
	encodes(t, rlp.Item{List: true, Bytes: []byte{}, Items: []rlp.Item{}})
	for _, n := range []int{1, 2, 53, 54, 55, 56, 57, 252, 253, 254, 255, 256, 257, 65000} {
		encodes(t, list(rlp.Item{Bytes: some(n)}))
		many := list()
		for i := range n {
			many.Items = append(many.Items, str(byte(i)%128))
		}
		encodes(t, many)
		encodes(t, list(many, str(), many.Items[0]))
	}
	encodes(t, list(list(), list(list()), list(list(), list(list()))))
	r := source()
	for range 3000 {
		encodes(t, draw(r, 5))
	}
}

// misfits: items that are neither bytes nor a list.
func misfits() []rlp.Item {
	return []rlp.Item{
		{List: true, Bytes: []byte{1}},
		{List: true, Bytes: []byte{0}, Items: []rlp.Item{{}}},
		{Items: []rlp.Item{{}}},
		{Bytes: []byte{1}, Items: []rlp.Item{{Bytes: []byte{2}}}},
		{Items: []rlp.Item{{List: true}}},
	}
}

// P601: ErrArg of items that are neither bytes nor a list, wherever they stand, and ahead of what is too great or too deep.
func TestEncodeNeither(t *testing.T) {
	huge := rlp.Item{Bytes: make([]byte, api.MaxRlp+1)}
	deep := inside(str(), api.MaxRlpDeep+1)
	for _, x := range misfits() {
		for _, y := range []rlp.Item{
			x, list(x), list(str(1), x), list(x, str(1)), list(list(str(), list(str(2), x)), list()),
			inside(x, 15), inside(x, 16), inside(x, 17), inside(x, 1000),
			list(huge, x), list(x, huge), list(deep, x), list(x, deep), list(huge, deep, list(x)),
		} {
			if b, err := rlp.Encode(y); b != nil || err != api.ErrArg {
				t.Errorf("Encode of %.99s: %.99x, %v", seen(y), b, err)
			}
		}
	}
	misfit := rlp.Item{List: true, Bytes: make([]byte, api.MaxRlp+1)}
	if b, err := rlp.Encode(misfit); b != nil || err != api.ErrArg {
		t.Errorf("Encode of a list with too many bytes: %.99x, %v", b, err)
	}
}

// P601: ErrBig of a list within MaxRlpDeep others, on the left, on the right and far beyond; bytes may stand within so many.
func TestEncodeDeep(t *testing.T) {
	for _, n := range []int{1, 14, 15, 16, 17, 18, 100, 1 << 16} {
		for _, x := range []rlp.Item{str(), str(7), list(), list(str(), str())} {
			y := inside(x, n)
			want := api.OK
			if x.List && n >= api.MaxRlpDeep || !x.List && n > api.MaxRlpDeep {
				want = api.ErrBig
			}
			for _, z := range []rlp.Item{y, {List: true, Items: append(inside(x, n).Items, str(), list())}} {
				b, err := rlp.Encode(z)
				if err != want || (b == nil) != (want != api.OK) {
					t.Errorf("Encode of %.9s within %d lists: %.99x, %v, not %v", seen(x), n, b, err, want)
				}
			}
			if n <= 100 {
				encodes(t, y)
				encodes(t, list(str(1), y, str(2)))
			}
		}
	}
}

// P601: encodings of MaxRlp bytes and such as would have one more, or far more.
func TestEncodeMost(t *testing.T) {
	most := api.MaxRlp
	long := func(n int) rlp.Item { return rlp.Item{Bytes: some(n)} }
	singles := func(n int) rlp.Item { return rlp.Item{List: true, Items: make([]rlp.Item, n)} }
	for _, c := range []struct {
		what string
		make func(n int) rlp.Item
		fits int
	}{
		{"bytes", long, most - 3},
		{"bytes in a list", func(n int) rlp.Item { return list(long(n)) }, most - 6},
		{"bytes in 16 lists", func(n int) rlp.Item { return inside(long(n), 16) }, most - 3 - 48},
		{"nothing, so many times", singles, most - 3},
		{"lists", func(n int) rlp.Item { return list(singles(n), singles(9)) }, most - 3 - 3 - 10},
		{"bytes and a list", func(n int) rlp.Item { return list(long(n), list()) }, most - 7},
		{"a list and bytes", func(n int) rlp.Item { return list(list(), str(1), long(n)) }, most - 8},
	} {
		for _, d := range []int{-1, 0, 1, 2, 3, 4, 10000} {
			b, err := rlp.Encode(c.make(c.fits + d))
			if d <= 0 && (err != api.OK || len(b) != most+d) || d > 0 && (err != api.ErrBig || b != nil) {
				t.Errorf("Encode of %s, %d more than fit: %d bytes, %v", c.what, d, len(b), err)
			}
			if d == 0 {
				encodes(t, c.make(c.fits))
			}
		}
	}
	if b, err := rlp.Encode(list(list(long(1<<24)), long(1<<24))); b != nil || err != api.ErrBig {
		t.Errorf("Encode of two times 2^24 bytes: %d bytes, %v", len(b), err)
	}
}
