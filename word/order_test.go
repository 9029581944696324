package word_test

import (
	"testing"

	"conclave/api"
	"conclave/word"
)

// P105: Cmp and Scmp by the numbers, plain and signed.
func TestOrder(t *testing.T) {
	ask := func(a, b api.Word) {
		if got, want := word.Cmp(a, b), bigOf(a).Cmp(bigOf(b)); got != want {
			t.Fatalf("Cmp of %x, %x: %d, not %d", a, b, got, want)
		}
		if got, want := word.Scmp(a, b), signedOf(a).Cmp(signedOf(b)); got != want {
			t.Fatalf("Scmp of %x, %x: %d, not %d", a, b, got, want)
		}
	}
	pairs(ask)
	for _, a := range some() {
		ask(a, a)
		for i := range a { // one limb differs, the ones below it say otherwise
			b := a
			b[i]++
			for j := range i {
				b[j]--
			}
			ask(a, b)
			ask(b, a)
		}
	}
}

// P105: where signs turn.
func TestOrderEdges(t *testing.T) {
	for _, x := range []struct {
		a, b          api.Word
		plain, signed int
	}{
		{zero, zero, 0, 0}, {ones, ones, 0, 0}, {least, least, 0, 0}, {zero, one, -1, -1}, {one, zero, 1, 1},
		{ones, zero, 1, -1}, {zero, ones, -1, 1}, {least, most, 1, -1}, {most, least, -1, 1}, {least, ones, -1, -1}, {ones, least, 1, 1},
		{power(64), api.Word{full}, 1, 1}, {api.Word{full, 1}, api.Word{0, 2}, -1, -1},
	} {
		if c, s := word.Cmp(x.a, x.b), word.Scmp(x.a, x.b); c != x.plain || s != x.signed {
			t.Errorf("Cmp, Scmp of %x, %x: %d, %d, not %d, %d", x.a, x.b, c, s, x.plain, x.signed)
		}
	}
}

// P105: Zero, with each limb alone.
func TestZero(t *testing.T) {
	if !word.Zero(zero) {
		t.Error("Zero of 0: false")
	}
	for _, w := range []api.Word{one, {0, 1}, {0, 0, 1}, {0, 0, 0, 1}, power(63), least, ones} {
		if word.Zero(w) {
			t.Errorf("Zero of %x: true", w)
		}
	}
}
