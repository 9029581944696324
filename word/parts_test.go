package word_test

import (
	"math/big"
	"testing"

	"conclave/api"
	"conclave/word"
)

// askParts: Div, Mod, Sdiv, Smod of a and b, against math/big (whose Quo and Rem round towards 0).
func askParts(t *testing.T, a, b api.Word) {
	t.Helper()
	var q, m, sq, sm api.Word
	if x, y := bigOf(a), bigOf(b); y.Sign() != 0 {
		q, m = wordOf(new(big.Int).Quo(x, y)), wordOf(new(big.Int).Rem(x, y))
		x, y = signedOf(a), signedOf(b)
		sq, sm = wordOf(new(big.Int).Quo(x, y)), wordOf(new(big.Int).Rem(x, y))
	}
	same(t, "Div", word.Div(a, b), q, a, b)
	same(t, "Mod", word.Mod(a, b), m, a, b)
	same(t, "Sdiv", word.Sdiv(a, b), sq, a, b)
	same(t, "Smod", word.Smod(a, b), sm, a, b)
}

// askModular: Addmod and Mulmod, against math/big.
func askModular(t *testing.T, a, b, n api.Word) {
	t.Helper()
	var s, p api.Word
	if x, y, m := bigOf(a), bigOf(b), bigOf(n); m.Sign() != 0 {
		s = wordOf(new(big.Int).Rem(new(big.Int).Add(x, y), m))
		p = wordOf(new(big.Int).Rem(new(big.Int).Mul(x, y), m))
	}
	same(t, "Addmod", word.Addmod(a, b, n), s, a, b, n)
	same(t, "Mulmod", word.Mulmod(a, b, n), p, a, b, n)
}

// P103: quotients and what is left.
func TestParts(t *testing.T) {
	pairs(func(a, b api.Word) { askParts(t, a, b) })
}

// P103: a divisor of 0 gives 0, whatever it divides.
func TestPartsOfZero(t *testing.T) {
	for _, a := range edges() {
		same(t, "Div", word.Div(a, zero), zero, a)
		same(t, "Mod", word.Mod(a, zero), zero, a)
		same(t, "Sdiv", word.Sdiv(a, zero), zero, a)
		same(t, "Smod", word.Smod(a, zero), zero, a)
		for _, b := range edges() {
			same(t, "Addmod", word.Addmod(a, b, zero), zero, a, b)
			same(t, "Mulmod", word.Mulmod(a, b, zero), zero, a, b)
		}
	}
}

// P103: signs: rounded towards 0, what is left has a's sign, the least number by -1 stays itself.
func TestSignedParts(t *testing.T) {
	seven, three := api.Word{7}, api.Word{3}
	for _, x := range []struct{ a, b, quotient, left api.Word }{
		{seven, three, api.Word{2}, one}, {minus(7), three, minus(2), ones},
		{seven, minus(3), minus(2), one}, {minus(7), minus(3), api.Word{2}, ones},
		{ones, api.Word{2}, zero, ones}, {minus(6), three, minus(2), zero},
		{least, ones, least, zero}, {least, one, least, zero}, {least, least, one, zero},
		{most, least, zero, most}, {least, most, ones, ones}, {least, api.Word{2}, word.Sar(one, least), zero},
	} {
		same(t, "Sdiv", word.Sdiv(x.a, x.b), x.quotient, x.a, x.b)
		same(t, "Smod", word.Smod(x.a, x.b), x.left, x.a, x.b)
	}
}

// P103: the whole sum and the whole product count, not what 2^256 leaves of them.
func TestModular(t *testing.T) {
	same(t, "Mulmod", word.Mulmod(least, api.Word{2}, api.Word{7}), api.Word{2})
	same(t, "Addmod", word.Addmod(ones, ones, api.Word{7}), api.Word{2})
	same(t, "Addmod", word.Addmod(ones, one, ones), one)
	same(t, "Addmod", word.Addmod(ones, ones, ones), zero)
	same(t, "Mulmod", word.Mulmod(ones, ones, minus(2)), one)
	same(t, "Mulmod", word.Mulmod(ones, ones, one), zero)
	few := []api.Word{zero, one, {2}, {7}, {full}, {0, 1}, {1, full}, {full, full}, power(128), {full, full, full}, power(192), least, most, minus(2), ones}
	for _, a := range few {
		for _, b := range few {
			for _, n := range few {
				askModular(t, a, b, n)
			}
		}
	}
	r := source()
	for range 200000 {
		askModular(t, draw(r), draw(r), draw(r))
	}
}

// P103: quotients whose limbs are guessed too great: those that divisor times quotient, and a little less or more, are made of.
func TestPartsNearMultiples(t *testing.T) {
	r := source()
	for range 20000 {
		b, q := draw(r), draw(r)
		a := word.Mul(b, q)
		askParts(t, a, b)
		askParts(t, word.Sub(a, one), b)
		askParts(t, word.Add(a, word.Sub(b, one)), b)
		askModular(t, b, q, b)
		askModular(t, word.Sub(b, one), q, b)
		askModular(t, word.Sub(b, one), word.Sub(b, one), b)
	}
}
