package rlp_test

import (
	"bytes"
	"slices"
	"testing"

	"conclave/api"
	"conclave/rlp"
)

// fill writes into an item, all through, spare room too.
func fill(x rlp.Item) {
	bs := x.Bytes[:cap(x.Bytes)]
	for i := range bs {
		bs[i] ^= 0xa5
	}
	items := x.Items[:cap(x.Items)]
	for i := range items {
		fill(items[i])
		items[i] = rlp.Item{List: true, Bytes: []byte("filled")}
	}
}

// roomy: an item whose lists all have spare room, filled with marks.
func roomy(x rlp.Item) rlp.Item {
	y := rlp.Item{List: x.List}
	y.Bytes = append(slices.Grow([]byte{}, len(x.Bytes)+5), x.Bytes...)
	spare := y.Bytes[len(y.Bytes):cap(y.Bytes)]
	for i := range spare {
		spare[i] = 0xee
	}
	y.Items = slices.Grow([]rlp.Item{}, len(x.Items)+2)
	for _, z := range x.Items {
		y.Items = append(y.Items, roomy(z))
	}
	for i := range y.Items[len(y.Items):cap(y.Items)] {
		y.Items[:len(y.Items)+i+1][len(y.Items)+i] = str(0xdd)
	}
	return y
}

// whole: an item with its spare room, as a text.
func whole(x rlp.Item) string {
	y := rlp.Item{List: x.List, Bytes: x.Bytes[:cap(x.Bytes)], Items: x.Items[:cap(x.Items)]}
	s := seen(rlp.Item{List: y.List, Bytes: y.Bytes})
	for _, z := range y.Items {
		s += "[" + whole(z) + "]"
	}
	return s
}

// P601 to P603, rules 2 and 4: what is handed in stays as it was, its spare room too, also where it is refused.
func TestHandedIn(t *testing.T) {
	r := source()
	for i := range 600 {
		x := roomy(draw(r, 4))
		if i%3 == 0 {
			x = roomy(inside(x, 17))
		}
		if i%5 == 0 {
			x = roomy(list(x, misfits()[i%5]))
		}
		was := whole(x)
		rlp.Encode(x)
		rlp.Same(x, x)
		rlp.List(x, x)
		rlp.List(x.Items...)
		rlp.Str(x.Bytes)
		rlp.Uint(x)
		rlp.Word(x)
		if whole(x) != was {
			t.Fatalf("changed: %.200s, not %.200s", whole(x), was)
		}
		b := append(plainBytes(x), 0xee, 0xee, 0xee)
		for _, n := range []int{len(b), len(b) - 3, len(b) - 4, 1, 0} {
			held := slices.Clone(b)
			rlp.First(held[:n])
			rlp.Decode(held[:n])
			if !bytes.Equal(held, b) {
				t.Fatalf("changed: %.200x, not %.200x", held, b)
			}
		}
	}
}

// Rule 4: nothing that is handed in is kept, nothing that is handed out is shared: neither with what came in nor among its own lists.
func TestHandedOut(t *testing.T) {
	x := list(str(1, 2), list(str(3), str(), list(str(4, 5, 6))), str(7))
	text := seen(x)
	b := plainBytes(x)
	in := roomy(x)
	made := rlp.List(in.Items...)
	fill(in)
	if seen(made) != text {
		t.Errorf("List keeps what it was given: %s", seen(made))
	}
	raw := slices.Clone(b)
	read, _ := rlp.Decode(raw)
	first, _, _ := rlp.First(raw)
	for i := range raw {
		raw[i] = 0xff
	}
	if seen(read) != text || seen(first) != text {
		t.Errorf("Decode keeps what it was given: %s, %s", seen(read), seen(first))
	}
	held := []byte{1, 2, 3}
	s := rlp.Str(held)
	held[0] = 9
	if s.Bytes[0] != 1 {
		t.Errorf("Str keeps what it was given")
	}
	raw = slices.Clone(b)
	read, _ = rlp.Decode(raw)
	fill(read)
	if !bytes.Equal(raw, b) {
		t.Errorf("Decode shares what it was given")
	}
	in = roomy(x)
	made = rlp.List(in.Items...)
	was := whole(in)
	fill(made)
	if whole(in) != was {
		t.Errorf("List shares what it was given")
	}
	for _, single := range []rlp.Item{str(5), str(1, 2, 3)} {
		out, _ := rlp.Encode(single)
		for i := range out {
			out[i] = 0xff
		}
		if single.Bytes[0] == 0xff {
			t.Errorf("Encode shares what it was given")
		}
	}
}

// Rule 4: the lists of one answer share no memory, spare room too.
func TestApart(t *testing.T) {
	x := list(str(1, 2), list(str(3), str(4), list(str(5, 6), list())), str(7), list(str(8)))
	read, err := rlp.Decode(plainBytes(x))
	if err != api.OK {
		t.Fatal(err)
	}
	for _, y := range []rlp.Item{read, rlp.List(x.Items...)} {
		for i := range y.Items {
			was := make([]string, len(y.Items))
			for j, z := range y.Items {
				was[j] = seen(z)
			}
			for range 3 {
				y.Items[i].Bytes = append(y.Items[i].Bytes, 0xff)
				y.Items[i].Items = append(y.Items[i].Items, str(0xff))
			}
			fill(y.Items[i])
			for j, z := range y.Items {
				if j != i && seen(z) != was[j] {
					t.Errorf("item %d is written with item %d: %s, not %s", j, i, seen(z), was[j])
				}
			}
		}
	}
	shared := []byte{1, 2}
	two := rlp.List(rlp.Item{Bytes: shared}, rlp.Item{Bytes: shared})
	two.Items[0].Bytes[0] = 9
	if two.Items[1].Bytes[0] != 1 || shared[0] != 1 {
		t.Errorf("List shares what came in twice")
	}
}

// Rule 5: the same call gives the same answer, whatever was asked between.
func TestAgain(t *testing.T) {
	x := list(str(1), list(str(0x80)))
	a, _ := rlp.Encode(x)
	rlp.Encode(rlp.Item{Items: []rlp.Item{{}}})
	rlp.Decode([]byte{0xc1})
	if b, err := rlp.Encode(x); !bytes.Equal(a, b) || err != api.OK {
		t.Errorf("Encode again: %x, %v, not %x", b, err, a)
	}
	if y, err := rlp.Decode(a); seen(y) != seen(x) || err != api.OK {
		t.Errorf("Decode again: %s, %v", seen(y), err)
	}
}
