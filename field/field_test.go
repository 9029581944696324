package field_test

import (
	"math/big"
	"math/rand/v2"
	"testing"

	"conclave/api"
	"conclave/field"
)

const full = 1<<64 - 1

var (
	zero = api.Word{}
	one  = api.Word{1}
	two  = api.Word{2}
	ones = api.Word{full, full, full, full}
)

// power: 2^n.
func power(n uint) *big.Int { return new(big.Int).Lsh(big.NewInt(1), n) }

// primeP, primeL: as the chapter writes them, reckoned without the package.
func primeP() *big.Int { return new(big.Int).Sub(power(255), big.NewInt(19)) }

func primeL() *big.Int {
	rest, _ := new(big.Int).SetString("27742317777372353535851937790883648493", 10)
	return rest.Add(rest, power(252))
}

// bigOf: the number of a word.
func bigOf(w api.Word) *big.Int {
	n := new(big.Int)
	for i := 3; i >= 0; i-- {
		n.Lsh(n, 64).Or(n, new(big.Int).SetUint64(w[i]))
	}
	return n
}

// wordOf: the word of a number modulo 2^256.
func wordOf(n *big.Int) api.Word {
	m := new(big.Int).Mod(n, power(256))
	var w api.Word
	for i := range w {
		w[i] = new(big.Int).And(m, new(big.Int).SetUint64(full)).Uint64()
		m.Rsh(m, 64)
	}
	return w
}

// near: the word of n and d.
func near(n *big.Int, d int64) api.Word { return wordOf(new(big.Int).Add(n, big.NewInt(d))) }

// modulo: the word of what a prime leaves of n; never negative.
func modulo(n, prime *big.Int) api.Word { return wordOf(new(big.Int).Mod(n, prime)) }

// edges: words at which something turns: the primes, what is twice and half of them, limbs, the bit 255, the end of a word.
func edges() []api.Word {
	ws := []api.Word{zero, one, two, {3}, {4}, {5}, {18}, {19}, {20}, {37}, {38}, {39}, {75}, {76}, {77}, {full}, {0, 1}, {0, 0, 1}, {0, 0, 0, 1},
		{full, full}, {full, full, full}, {0, full, full, full}, {full, 0, full, 0}, {0, 0, 0, full}}
	twiceP := new(big.Int).Lsh(primeP(), 1)
	for _, n := range []*big.Int{primeP(), primeL(), twiceP, new(big.Int).Rsh(primeP(), 1), power(255), power(252), power(192)} {
		for _, d := range []int64{-39, -38, -20, -19, -18, -2, -1, 0, 1, 2, 17, 18, 19, 20, 36, 37} {
			ws = append(ws, near(n, d))
		}
	}
	for i := range int64(16) { // the multiples of L that a word holds
		ws = append(ws, wordOf(new(big.Int).Mul(primeL(), big.NewInt(i))))
	}
	for d := range int64(40) { // 2^256 - 38 is twice P
		ws = append(ws, near(power(256), -1-d))
	}
	return ws
}

// fewEdges: so few that all may stand with all in three places.
func fewEdges() []api.Word {
	ws := []api.Word{zero, one, two, wordOf(power(255)), ones}
	for _, d := range []int64{-1, 0, 1} {
		ws = append(ws, near(primeP(), d), near(primeL(), d))
	}
	return ws
}

// source: numbers that look drawn and are the same in each run.
func source() *rand.Rand { return rand.New(rand.NewPCG(4, 404)) }

// draw: a word; some of its limbs are all ones or noughts, so that carries go far.
func draw(r *rand.Rand) api.Word {
	var w api.Word
	for i := range w {
		switch r.IntN(6) {
		case 0:
		case 1:
			w[i] = full
		case 2:
			w[i] = full - r.Uint64N(64)
		default:
			w[i] = r.Uint64()
		}
	}
	return w
}

// pairs: all edges with all, and drawn ones.
func pairs(f func(a, b api.Word)) {
	for _, a := range edges() {
		for _, b := range edges() {
			f(a, b)
		}
	}
	r := source()
	for range 50000 {
		f(draw(r), draw(r))
	}
}

// some: edges and drawn words.
func some(n int) []api.Word {
	ws := edges()
	r := source()
	for range n {
		ws = append(ws, draw(r))
	}
	return ws
}

func same(t *testing.T, what string, got, want api.Word, of ...api.Word) {
	t.Helper()
	if got != want {
		t.Fatalf("%s of %x: %x, not %x", what, of, got, want)
	}
}

// P401, P403: the primes themselves.
func TestPrimes(t *testing.T) {
	same(t, "P", field.P(), wordOf(primeP()))
	same(t, "L", field.L(), wordOf(primeL()))
	if !bigOf(field.P()).ProbablyPrime(20) || !bigOf(field.L()).ProbablyPrime(20) {
		t.Error("P or L is no prime")
	}
}

// P401: the chapter's examples.
func TestExamples(t *testing.T) {
	same(t, "Add of P, 1", field.Add(field.P(), one), one)
	same(t, "Mul of 2, Inv of 2", field.Mul(two, field.Inv(two)), one)
	if r, ok := field.Sqrt(api.Word{4}); r != two || !ok {
		t.Errorf("Sqrt of 4: %x, %v", r, ok)
	}
	if r, ok := field.Sqrt(two); r != zero || ok {
		t.Errorf("Sqrt of 2: %x, %v", r, ok)
	}
	if _, ok := field.Sqrt(near(primeP(), -1)); !ok {
		t.Error("Sqrt of P - 1: false")
	}
	b := make([]byte, 64)
	for i := range b {
		b[i] = 0xff
	}
	want, _ := new(big.Int).SetString("399411b7c309a3dceec73d217f5be65d00e1ba768859347a40611e3449c0f00", 16)
	if got, err := field.Lfold(b); got != wordOf(want) || err != api.OK {
		t.Errorf("Lfold of 64 bytes ff: %x, %v", got, err)
	}
}

// P401: Add, Sub, Mul modulo P, of all words.
func TestSums(t *testing.T) {
	p := primeP()
	pairs(func(a, b api.Word) {
		x, y := bigOf(a), bigOf(b)
		same(t, "Add", field.Add(a, b), modulo(new(big.Int).Add(x, y), p), a, b)
		same(t, "Sub", field.Sub(a, b), modulo(new(big.Int).Sub(x, y), p), a, b)
		same(t, "Mul", field.Mul(a, b), modulo(new(big.Int).Mul(x, y), p), a, b)
	})
}

// P401: products whose number is just at P, once or often, or beside it.
func TestProductsBesideP(t *testing.T) {
	p := primeP()
	r := source()
	for range 3000 {
		a := draw(r)
		x := new(big.Int).Mod(bigOf(a), p)
		if x.Sign() == 0 {
			continue
		}
		for _, d := range []int64{-38, -20, -19, -18, -1, 0, 1, 18, 19, 20, 38} {
			want := modulo(big.NewInt(d), p)
			y := new(big.Int).ModInverse(x, p)
			y.Mul(y, big.NewInt(d)).Mod(y, p)
			same(t, "Mul", field.Mul(a, wordOf(y)), want, a, wordOf(y))
			above := new(big.Int).Add(y, p)
			same(t, "Mul", field.Mul(a, wordOf(above)), want, a, wordOf(above))
			same(t, "Add", field.Add(a, wordOf(new(big.Int).Mod(new(big.Int).Sub(big.NewInt(d), x), p))), want, a)
			same(t, "Sub", field.Sub(a, wordOf(new(big.Int).Mod(new(big.Int).Sub(x, big.NewInt(d)), p))), want, a)
		}
	}
}

// Rule 4: words are handed in by value, so nothing of the caller's can change; that a table of them stays is asked all the same.
func TestWordsStay(t *testing.T) {
	for _, a := range fewEdges() {
		for _, b := range fewEdges() {
			in := [2]api.Word{a, b}
			field.Add(in[0], in[1])
			field.Sub(in[0], in[1])
			field.Mul(in[0], in[1])
			field.Pow(in[0], in[1])
			field.Inv(in[0])
			field.Sqrt(in[0])
			field.Bytes(in[0])
			field.Ladd(in[0], in[1])
			field.Lmul(in[0], in[1])
			if in != [2]api.Word{a, b} {
				t.Fatalf("words changed: %x, %x", in, [2]api.Word{a, b})
			}
		}
	}
}
