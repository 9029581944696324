package ed_test

import (
	"math/big"
	"testing"

	"conclave/api"
	"conclave/ed"
)

// P501: Encode of points, which Decode gives back.
func TestEncodePoints(t *testing.T) {
	for _, p := range points(t, 200) {
		k := ed.Encode(p)
		if k != plainEncode(p) {
			t.Fatalf("Encode of %x: %x", p, k)
		}
		if q, err := ed.Decode(k); q != p || err != api.OK {
			t.Fatalf("Decode of Encode of %x: %x, %v", p, q, err)
		}
		if p.X != (api.Word{}) {
			other := k
			other[31] ^= 0x80
			if ed.Encode(away(p)) != other {
				t.Fatalf("Encode of the opposite of %x: %x", p, ed.Encode(away(p)))
			}
		}
	}
}

// P501: Encode of any pairs, X and Y modulo P, at and above P, 2 P and the greatest word too.
func TestEncodeAny(t *testing.T) {
	var ws []api.Word
	for _, n := range []*big.Int{num(0), primeP(), times(primeP(), num(2)), power(255), power(256)} {
		for d := int64(-21); d <= 21; d++ {
			ws = append(ws, wordOf(sum(n, num(d))))
		}
	}
	for _, x := range ws {
		for _, y := range ws {
			p := ed.Point{X: x, Y: y}
			if got := ed.Encode(p); got != plainEncode(p) {
				t.Fatalf("Encode of %x: %x", p, got)
			}
		}
	}
	r := source()
	for range 1000 {
		p := ed.Point{X: draw(r), Y: draw(r)}
		if got := ed.Encode(p); got != plainEncode(p) {
			t.Fatalf("Encode of %x: %x", p, got)
		}
	}
	for _, p := range noPoints(t) {
		if got := ed.Encode(p); got != plainEncode(p) {
			t.Fatalf("Encode of %x: %x", p, got)
		}
	}
}

// decodes: Decode of k answers as the words say; whether it is a point.
func decodes(t *testing.T, k api.Key) bool {
	t.Helper()
	p, err := ed.Decode(k)
	want, ok := plainDecode(k)
	wantErr := api.OK
	if !ok {
		wantErr = api.ErrPoint
	}
	if p != want || err != wantErr {
		t.Fatalf("Decode of %x: %x, %v, not %x, %v", k, p, err, want, wantErr)
	}
	if ok && (!plainOn(p) || ed.Encode(p) != k) {
		t.Fatalf("Decode of %x: %x, which is written otherwise", k, p)
	}
	return ok
}

// withBit: the bytes of a number below 2^255 and the highest bit.
func withBit(n *big.Int, high bool) api.Key {
	k := lowFirst(n)
	if high {
		k[31] |= 0x80
	}
	return k
}

// P501: Decode of Y from 0 on, of Y up to P - 1, with either highest bit: points, and such that no X fits.
func TestDecodeEdges(t *testing.T) {
	points, others := 0, 0
	for d := range int64(150) {
		for _, high := range []bool{false, true} {
			for _, y := range []*big.Int{num(d), less(primeP(), num(d+1))} {
				if decodes(t, withBit(y, high)) {
					points++
				} else {
					others++
				}
			}
		}
	}
	if points < 100 || others < 100 {
		t.Errorf("%d points and %d others: the test shows little", points, others)
	}
}

// P501: Decode where Y is P or more, with either highest bit: ErrPoint, though Y modulo P would fit.
func TestDecodeTooGreat(t *testing.T) {
	fit := 0
	for d := range int64(19) { // all that 255 bits hold
		for _, high := range []bool{false, true} {
			k := withBit(sum(primeP(), num(d)), high)
			if p, err := ed.Decode(k); p != none || err != api.ErrPoint {
				t.Errorf("Decode of %x: %x, %v", k, p, err)
			}
			if _, ok := plainX(num(d), high); ok {
				fit++
			}
		}
	}
	if fit < 10 {
		t.Errorf("%d would fit: the test shows little", fit)
	}
}

// P501: Decode where X is 0: a point without the highest bit, ErrPoint with it.
func TestDecodeNoughtX(t *testing.T) {
	for _, y := range []*big.Int{num(1), less(primeP(), num(1))} {
		if p, err := ed.Decode(withBit(y, false)); p != pointOf(num(0), y) || err != api.OK {
			t.Errorf("Decode of Y %x: %x, %v", y, p, err)
		}
		if p, err := ed.Decode(withBit(y, true)); p != none || err != api.ErrPoint {
			t.Errorf("Decode of Y %x and the highest bit: %x, %v", y, p, err)
		}
	}
}

// P501: Decode of drawn bytes: points and none.
func TestDecodeDrawn(t *testing.T) {
	r := source()
	points := 0
	for range 600 {
		if decodes(t, api.Key(drawBytes(r, 32))) {
			points++
		}
	}
	if points < 200 || points > 400 {
		t.Errorf("%d of 600 are points: about half of them would be", points)
	}
	decodes(t, api.Key{})
	decodes(t, lowFirst(bigOf(ones)))
}
