package rlp_test

import (
	"bytes"
	"math/big"
	"slices"
	"testing"

	"conclave/api"
	"conclave/rlp"
	"conclave/word"
)

// P601, P602, P603: the chapter's examples.
func TestExamples(t *testing.T) {
	long := some(56)
	for _, c := range []struct {
		x rlp.Item
		b string
	}{
		{rlp.Str([]byte("dog")), "83646f67"},
		{rlp.Str(nil), "80"},
		{rlp.List(), "c0"},
		{rlp.Num(15), "0f"},
		{rlp.Num(1024), "820400"},
		{rlp.Big(word.Of(1024)), "820400"},
		{rlp.Str(long), "b838" + seen(rlp.Str(long))},
	} {
		want := unhex(t, c.b)
		if b, err := rlp.Encode(c.x); !bytes.Equal(b, want) || err != api.OK {
			t.Errorf("Encode of %s: %x, %v, not %s", seen(c.x), b, err, c.b)
		}
		if x, err := rlp.Decode(want); !rlp.Same(x, c.x) || seen(x) != seen(c.x) || err != api.OK {
			t.Errorf("Decode of %s: %s, %v, not %s", c.b, seen(x), err, seen(c.x))
		}
	}
	fails(t, unhex(t, "8105"), api.ErrRlp)
	fails(t, unhex(t, "b801ff"), api.ErrRlp)
	fails(t, unhex(t, "c1"), api.ErrEnd)
}

// P603: Str of bytes, List of items, none among them.
func TestStrList(t *testing.T) {
	for _, n := range []int{0, 1, 2, 32, 56, 70000} {
		if x := rlp.Str(some(n)); x.List || x.Items != nil || !bytes.Equal(x.Bytes, some(n)) {
			t.Errorf("Str of %d bytes: %.99s", n, seen(x))
		}
		if x := rlp.Str(make([]byte, n)); !bytes.Equal(x.Bytes, make([]byte, n)) {
			t.Errorf("Str of %d noughts: %.99s", n, seen(x))
		}
	}
	items := []rlp.Item{str(1), list(), list(str(2), list(str(3, 4))), str()}
	for n := range len(items) + 1 {
		if x := rlp.List(items[:n]...); !x.List || len(x.Bytes) != 0 || seen(x) != seen(list(items[:n]...)) {
			t.Errorf("List of %d: %s", n, seen(x))
		}
	}
	for _, x := range misfits() { // a list of them is one, though Encode refuses it
		if y := rlp.List(str(), x); seen(y) != seen(list(str(), x)) {
			t.Errorf("List of %s: %s", seen(x), seen(y))
		}
	}
}

// numbers: edges of what one to 32 bytes can tell.
func numbers() []*big.Int {
	ns := []*big.Int{big.NewInt(0)}
	for bits := range uint(257) {
		for d := int64(-1); d <= 1; d++ {
			n := new(big.Int).Lsh(big.NewInt(1), bits)
			n.Add(n, big.NewInt(d))
			if n.Sign() >= 0 && n.BitLen() <= 256 {
				ns = append(ns, n)
			}
		}
	}
	return ns
}

// wordOf: a number as a word.
func wordOf(n *big.Int) api.Word {
	var w api.Word
	for i := range w {
		w[i] = new(big.Int).Rsh(n, uint(64*i)).Uint64()
	}
	return w
}

// P603: Num, Big, Uint and Word of 0, 1, 127, 128, 255, 256, all powers of two and their neighbours, up to the greatest number.
func TestNumbers(t *testing.T) {
	for _, n := range numbers() {
		w := wordOf(n)
		x := rlp.Big(w)
		if x.List || x.Items != nil || !bytes.Equal(x.Bytes, n.Bytes()) {
			t.Errorf("Big of %v: %s", n, seen(x))
		}
		if back, err := rlp.Word(x); back != w || err != api.OK {
			t.Errorf("Word of %v: %v, %v", n, back, err)
		}
		if n.BitLen() > 64 {
			if got, err := rlp.Uint(x); got != 0 || err != api.ErrBig {
				t.Errorf("Uint of %v: %v, %v", n, got, err)
			}
			continue
		}
		if y := rlp.Num(n.Uint64()); y.List || y.Items != nil || !bytes.Equal(y.Bytes, n.Bytes()) {
			t.Errorf("Num of %v: %s", n, seen(y))
		}
		if got, err := rlp.Uint(x); got != n.Uint64() || err != api.OK {
			t.Errorf("Uint of %v: %v, %v", n, got, err)
		}
	}
	r := source()
	for range 2000 {
		w := api.Word{r.Uint64(), r.Uint64(), r.Uint64(), r.Uint64()}
		if back, err := rlp.Word(rlp.Big(w)); back != w || err != api.OK {
			t.Errorf("Word of Big of %x: %x, %v", w, back, err)
		}
		if n, err := rlp.Uint(rlp.Num(w[0])); n != w[0] || err != api.OK {
			t.Errorf("Uint of Num of %d: %d, %v", w[0], n, err)
		}
	}
}

// P603: Uint and Word of lists, of too many bytes, of a first byte that is 0, and which of these comes first.
func TestNumbersWrong(t *testing.T) {
	nought := func(n int) []byte { return append([]byte{0}, some(n-1)...) }
	for _, c := range []struct {
		x          rlp.Item
		uint, word api.Errno
	}{
		{list(), api.ErrArg, api.ErrArg},
		{list(str(1)), api.ErrArg, api.ErrArg},
		{rlp.Item{List: true, Bytes: []byte{1}}, api.ErrArg, api.ErrArg},
		{rlp.Item{List: true, Bytes: nought(40)}, api.ErrArg, api.ErrArg},
		{str(), api.OK, api.OK},
		{rlp.Item{Bytes: []byte{}}, api.OK, api.OK},
		{str(0), api.ErrRlp, api.ErrRlp},
		{str(0, 0), api.ErrRlp, api.ErrRlp},
		{str(0, 1), api.ErrRlp, api.ErrRlp},
		{str(1, 0), api.OK, api.OK},
		{rlp.Item{Bytes: some(8)}, api.OK, api.OK},
		{rlp.Item{Bytes: nought(8)}, api.ErrRlp, api.ErrRlp},
		{rlp.Item{Bytes: some(9)}, api.ErrBig, api.OK},
		{rlp.Item{Bytes: nought(9)}, api.ErrBig, api.ErrRlp},
		{rlp.Item{Bytes: some(32)}, api.ErrBig, api.OK},
		{rlp.Item{Bytes: nought(32)}, api.ErrBig, api.ErrRlp},
		{rlp.Item{Bytes: some(33)}, api.ErrBig, api.ErrBig},
		{rlp.Item{Bytes: nought(33)}, api.ErrBig, api.ErrBig},
		{rlp.Item{Bytes: make([]byte, 1000)}, api.ErrBig, api.ErrBig},
	} {
		number := new(big.Int).SetBytes(c.x.Bytes)
		n, err := rlp.Uint(c.x)
		if err != c.uint || err != api.OK && n != 0 || err == api.OK && n != number.Uint64() {
			t.Errorf("Uint of %s: %d, %v, not %v", seen(c.x), n, err, c.uint)
		}
		w, err := rlp.Word(c.x)
		if err != c.word || err != api.OK && w != (api.Word{}) || err == api.OK && w != wordOf(number) {
			t.Errorf("Word of %s: %x, %v, not %v", seen(c.x), w, err, c.word)
		}
	}
}

// same: Same both ways round.
func same(t *testing.T, a, b rlp.Item, want bool) {
	t.Helper()
	if rlp.Same(a, b) != want || rlp.Same(b, a) != want {
		t.Errorf("Same of %.99s and %.99s: %v, %v, not %v", seen(a), seen(b), rlp.Same(a, b), rlp.Same(b, a), want)
	}
}

// P603: Same of items that are alike, nil and empty among them, and of such as differ in one place.
func TestSame(t *testing.T) {
	alike := []rlp.Item{{}, {Bytes: []byte{}}, {Items: []rlp.Item{}}, {Bytes: make([]byte, 0, 9), Items: make([]rlp.Item, 0, 9)}}
	for _, a := range alike {
		for _, b := range alike {
			same(t, a, b, true)
			same(t, list(str(1), a), list(str(1), b), true)
			c, d := a, b
			c.List, d.List = true, true
			same(t, c, d, true)
			same(t, list(list(c)), list(list(d)), true)
			same(t, c, b, false)
			same(t, list(list(c)), list(list(b)), false)
		}
	}
	unlike := append(misfits(), str(), str(0), str(1), str(1, 0), str(0, 1), list(), list(str()), list(str(0)), list(list()), list(list(), list()),
		list(str(), str()), list(str(1), str(2)), list(str(2), str(1)), list(str(1, 2)), list(list(str(1)), str(2)), list(str(1), list(str(2))), list(str(1), list(str(2), str())),
		rlp.Item{Items: []rlp.Item{{}, {}}}, rlp.Item{Bytes: []byte{1}, Items: []rlp.Item{{}}}, rlp.Item{List: true, Bytes: []byte{2}})
	for i, a := range unlike {
		for j, b := range unlike {
			same(t, a, b, i == j)
			same(t, inside(a, 20), inside(b, 20), i == j)
		}
	}
	r := source()
	for range 2000 {
		a, b := draw(r, 3), draw(r, 3)
		same(t, a, b, seen(a) == seen(b))
		same(t, a, rlp.List(a).Items[0], true)
	}
}

// P603: parts nested as far as the document's bound goes.
func TestFarNested(t *testing.T) {
	x := rlp.Item{List: true}
	for range 1<<16 - 2 {
		x = rlp.Item{List: true, Items: []rlp.Item{x}}
	}
	y := rlp.List(x)
	same(t, y, list(x), true)
	same(t, y, list(y), false)
	if b, err := rlp.Encode(y); b != nil || err != api.ErrBig {
		t.Errorf("Encode: %.99x, %v", b, err)
	}
}

// P604: Decode of Encode is the item, Encode of Decode the bytes.
func TestBack(t *testing.T) {
	r := source()
	for range 5000 {
		x := draw(r, 6)
		b, err := rlp.Encode(x)
		if err != api.OK {
			if len(plainBytes(x)) <= api.MaxRlp {
				t.Fatalf("Encode of %.99s: %v", seen(x), err)
			}
			continue
		}
		back, err := rlp.Decode(b)
		if err != api.OK || !rlp.Same(back, x) || seen(back) != seen(x) {
			t.Fatalf("Decode of Encode of %.99s: %.99s, %v", seen(x), seen(back), err)
		}
		again, err := rlp.Encode(back)
		if err != api.OK || !bytes.Equal(again, b) {
			t.Fatalf("Encode of Decode of %.99x: %.99x, %v", b, again, err)
		}
		if first, n, err := rlp.First(append(b, b...)); err != api.OK || n != len(b) || !rlp.Same(first, x) {
			t.Fatalf("First of two times %.99x: %.99s, %d, %v", b, seen(first), n, err)
		}
	}
}

// P604: what Decode answers may be taken apart and put together again.
func TestTakenApart(t *testing.T) {
	x, err := rlp.Decode(unhex(t, "c883646f6782040080"))
	if err != api.OK || len(x.Items) != 3 {
		t.Fatalf("Decode: %s, %v", seen(x), err)
	}
	if n, err := rlp.Uint(x.Items[1]); n != 1024 || err != api.OK {
		t.Errorf("Uint: %d, %v", n, err)
	}
	y := rlp.List(x.Items...)
	y.Items = slices.Concat(y.Items, []rlp.Item{rlp.Num(1)})
	if b, err := rlp.Encode(y); !bytes.Equal(b, unhex(t, "c983646f678204008001")) || err != api.OK {
		t.Errorf("Encode: %x, %v", b, err)
	}
}
