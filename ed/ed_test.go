package ed_test

import (
	"math/big"
	"testing"

	"conclave/api"
	"conclave/ed"
)

// P501: the base is the point of Y 4 / 5 and an even X.
func TestBase(t *testing.T) {
	b := ed.Base()
	if b != plainBase(t) || b.X[0]&1 != 0 || !plainOn(b) || !ed.On(b) {
		t.Errorf("Base: %x", b)
	}
	if y := modP(times(bigOf(b.Y), num(5))); y.Cmp(num(4)) != 0 {
		t.Errorf("five times the base's Y: %x", y)
	}
}

// P501: On of points: those that come round soon, the base, drawn ones.
func TestOnPoints(t *testing.T) {
	for _, p := range points(t, 100) {
		if !plainOn(p) {
			t.Fatalf("%x is no point for the test", p)
		}
		if !ed.On(p) || !ed.On(away(p)) {
			t.Errorf("On of %x", p)
		}
	}
}

// P501: On of pairs that are none, and of such whose X or Y is P or more though the pair modulo P is a point.
func TestOnOthers(t *testing.T) {
	for _, p := range noPoints(t) {
		if plainOn(p) {
			t.Fatalf("%x is a point for the test", p)
		}
		if ed.On(p) {
			t.Errorf("On of %x", p)
		}
	}
	r := source()
	for range 300 {
		p := ed.Point{X: draw(r), Y: draw(r)}
		if ed.On(p) != plainOn(p) {
			t.Errorf("On of %x: %v", p, ed.On(p))
		}
	}
	q := drawPoint(r)
	for i := range 256 { // one bit changed, in X and in Y
		x, y := q, q
		x.X[i/64] ^= 1 << (i % 64)
		y.Y[i/64] ^= 1 << (i % 64)
		if ed.On(x) != plainOn(x) || ed.On(y) != plainOn(y) {
			t.Errorf("On of %x: %v, of %x: %v", x, ed.On(x), y, ed.On(y))
		}
	}
}

// P501: Add of every two points, each way round.
func TestAdd(t *testing.T) {
	ps := points(t, 12)
	for _, a := range ps {
		for _, b := range ps {
			want := plainAdd(a, b)
			if got := ed.Add(a, b); got != want || !plainOn(got) {
				t.Fatalf("Add of %x, %x: %x, not %x", a, b, got, want)
			}
		}
	}
}

// P501: Add of pairs that are no point, in either place and in both: the zero Point.
func TestAddOthers(t *testing.T) {
	for _, bad := range noPoints(t) {
		for _, p := range append(rounds(t), ed.Base()) {
			if got := ed.Add(bad, p); got != none {
				t.Errorf("Add of %x, %x: %x", bad, p, got)
			}
			if got := ed.Add(p, bad); got != none {
				t.Errorf("Add of %x, %x: %x", p, bad, got)
			}
		}
		if got := ed.Add(bad, bad); got != none {
			t.Errorf("Add of %x with itself: %x", bad, got)
		}
	}
}

// numbers: at which Mul turns: small ones, those beside L and what L goes into, single bits at the limbs' ends, the greatest.
func numbers() []*big.Int {
	ns := []*big.Int{num(0), num(1), num(2), num(3), num(4), num(5), num(7), num(8), num(9), num(255), num(256), num(257), bigOf(ones), less(bigOf(ones), num(1)), primeP()}
	for _, d := range []int64{-2, -1, 0, 1, 2} {
		ns = append(ns, sum(primeL(), num(d)), sum(times(primeL(), num(8)), num(d)))
	}
	for _, i := range []uint{63, 64, 127, 128, 191, 192, 252, 253, 254, 255} {
		ns = append(ns, power(i), less(power(i), num(1)))
	}
	return ns
}

// P501: Mul at the edges, of points that come round soon, of the base, of others: n is the whole number, 0 times is X 0, Y 1.
func TestMul(t *testing.T) {
	for _, p := range points(t, 2) {
		for _, n := range numbers() {
			want := plainMul(n, p)
			if got := ed.Mul(wordOf(n), p); got != want {
				t.Fatalf("Mul of %x, %x: %x, not %x", n, p, got, want)
			}
		}
		if ed.Mul(api.Word{}, p) != still || ed.Mul(api.Word{1}, p) != p {
			t.Errorf("0 and 1 times %x", p)
		}
	}
}

// P501: Mul of drawn numbers and points, of numbers of few bits too.
func TestMulDrawn(t *testing.T) {
	r := source()
	for i := range 40 {
		p, n := drawPoint(r), new(big.Int).Rsh(bigOf(draw(r)), uint(r.IntN(256)))
		if i%2 == 0 {
			p = ed.Base()
		}
		if got, want := ed.Mul(wordOf(n), p), plainMul(n, p); got != want {
			t.Fatalf("Mul of %x, %x: %x, not %x", n, p, got, want)
		}
	}
}

// P501: small multiples are sums, one behind the other.
func TestMulSteps(t *testing.T) {
	for _, p := range points(t, 3) {
		s := still
		for n := range uint64(70) {
			if got := ed.Mul(api.Word{n}, p); got != s {
				t.Fatalf("%d times %x: %x, not %x", n, p, got, s)
			}
			s = plainAdd(s, p)
		}
	}
}

// P501: points come round after 1, 2, 4 and 8 steps, and not earlier.
func TestMulRound(t *testing.T) {
	for i, p := range rounds(t) {
		steps := []uint64{1, 2, 4, 4, 8, 8, 8, 8}[i]
		for n := uint64(1); n <= 8; n++ {
			if got := ed.Mul(api.Word{n}, p) == still; got != (n%steps == 0) {
				t.Errorf("%d times the point %d: %v", n, i, got)
			}
		}
		// 2^256 - 1 is 7 above a multiple of 8: a number taken modulo L first would leave another
		if got := ed.Mul(ones, p); got != away(p) {
			t.Errorf("the greatest word times the point %d: %x", i, got)
		}
	}
}

// P501: Mul of pairs that are no point: the zero Point, by 0 and 1 too.
func TestMulOthers(t *testing.T) {
	for _, bad := range noPoints(t) {
		for _, n := range []api.Word{{}, {1}, {2}, {8}, wordOf(primeL()), ones} {
			if got := ed.Mul(n, bad); got != none {
				t.Errorf("Mul of %x, %x: %x", n, bad, got)
			}
		}
	}
}
