package ed_test

import (
	"testing"

	"conclave/api"
	"conclave/ed"
)

// P503: sums hang on no order, of two and of three.
func TestAnyOrder(t *testing.T) {
	ps := points(t, 5)
	for _, a := range ps {
		for _, b := range ps {
			ab := ed.Add(a, b)
			if ab != ed.Add(b, a) {
				t.Fatalf("Add of %x, %x hangs on the order", a, b)
			}
			for _, c := range ps {
				if ed.Add(ab, c) != ed.Add(a, ed.Add(b, c)) {
					t.Fatalf("Add of %x, %x, %x hangs on the order", a, b, c)
				}
			}
		}
	}
}

// P503: X 0, Y 1 changes nothing; the point with P - X in place of X takes a point away.
func TestStillAndAway(t *testing.T) {
	for _, p := range points(t, 50) {
		if ed.Add(p, still) != p || ed.Add(still, p) != p {
			t.Errorf("X 0, Y 1 changes %x", p)
		}
		if ed.Add(p, away(p)) != still || ed.Add(away(p), p) != still {
			t.Errorf("the opposite of %x does not take it away", p)
		}
	}
	p, q := ed.Base(), drawPoint(source())
	if ed.Add(ed.Add(q, p), away(p)) != q {
		t.Error("the base added and taken away leaves another point")
	}
	// of X 0 the word P - X is P itself: that pair is on no curve
	if bad := pointOf(primeP(), num(1)); ed.On(bad) || ed.Add(still, bad) != none {
		t.Error("X P, Y 1 is taken for a point")
	}
}

// P503: L times the base is X 0, Y 1, and nothing less is.
func TestRound(t *testing.T) {
	b, l := ed.Base(), primeL()
	if got := ed.Mul(wordOf(l), b); got != still {
		t.Errorf("L times the base: %x", got)
	}
	if got := ed.Mul(wordOf(less(l, num(1))), b); got != away(b) {
		t.Errorf("L - 1 times the base: %x", got)
	}
	if got := ed.Mul(wordOf(sum(l, num(1))), b); got != b {
		t.Errorf("L and 1 times the base: %x", got)
	}
	for _, d := range []int64{1, 2, 3, 7, 8} {
		if ed.Mul(api.Word{uint64(d)}, b) == still || ed.Mul(wordOf(less(l, num(d))), b) == still {
			t.Errorf("the base comes round %d beside", d)
		}
	}
}

// P503: every point comes round after 8 L, but for one in eight not after L.
func TestRoundOfAll(t *testing.T) {
	r := source()
	early := 0
	for range 64 {
		p := drawPoint(r)
		if got := ed.Mul(wordOf(times(primeL(), num(8))), p); got != still {
			t.Fatalf("8 L times %x: %x", p, got)
		}
		if ed.Mul(wordOf(primeL()), p) == still {
			early++
		}
	}
	if early == 0 || early > 24 {
		t.Errorf("%d of 64 points come round after L: about 8 would", early)
	}
}

// P503: multiples add up: n p + m p is (n + m) p, n (m p) is (n m) p, n (p + q) is n p + n q.
func TestMultiplesAddUp(t *testing.T) {
	r := source()
	for range 20 {
		n, m, p, q := api.Word{r.Uint64(), r.Uint64()}, api.Word{r.Uint64(), r.Uint64()}, drawPoint(r), drawPoint(r)
		if ed.Add(ed.Mul(n, p), ed.Mul(m, p)) != ed.Mul(wordOf(sum(bigOf(n), bigOf(m))), p) {
			t.Fatalf("%x and %x times %x do not add up", n, m, p)
		}
		if ed.Mul(n, ed.Mul(m, p)) != ed.Mul(wordOf(times(bigOf(n), bigOf(m))), p) {
			t.Fatalf("%x times %x times %x is not their product's", n, m, p)
		}
		if ed.Mul(n, ed.Add(p, q)) != ed.Add(ed.Mul(n, p), ed.Mul(n, q)) {
			t.Fatalf("%x times a sum is not the sum of both", n)
		}
	}
}
