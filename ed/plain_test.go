package ed_test

import (
	"math/big"
	"math/rand/v2"
	"slices"
	"testing"

	"conclave/api"
	"conclave/ed"
)

// What stands here says the chapter's words over again with the library's numbers, without the package or those below it.

const full = 1<<64 - 1

var (
	none  = ed.Point{}               // the zero Point, which is on no curve
	still = ed.Point{Y: api.Word{1}} // changes nothing
	ones  = api.Word{full, full, full, full}
)

func num(n int64) *big.Int         { return big.NewInt(n) }
func power(n uint) *big.Int        { return new(big.Int).Lsh(num(1), n) }
func primeP() *big.Int             { return new(big.Int).Sub(power(255), num(19)) }
func sum(a, b *big.Int) *big.Int   { return new(big.Int).Add(a, b) }
func less(a, b *big.Int) *big.Int  { return new(big.Int).Sub(a, b) }
func times(a, b *big.Int) *big.Int { return new(big.Int).Mul(a, b) }

func primeL() *big.Int {
	rest, _ := new(big.Int).SetString("27742317777372353535851937790883648493", 10)
	return rest.Add(rest, power(252))
}

// modP: what P leaves of n; never negative.
func modP(n *big.Int) *big.Int { return new(big.Int).Mod(n, primeP()) }

// over: a / b modulo P.
func over(a, b *big.Int) *big.Int {
	return modP(times(a, new(big.Int).ModInverse(modP(b), primeP())))
}

func curveD() *big.Int { return over(num(-121665), num(121666)) }

// bigOf: the number of a word.
func bigOf(w api.Word) *big.Int {
	n := new(big.Int)
	for i := 3; i >= 0; i-- {
		n.Lsh(n, 64).Or(n, new(big.Int).SetUint64(w[i]))
	}
	return n
}

// wordOf: the word of a number modulo 2^256.
func wordOf(n *big.Int) api.Word {
	m := new(big.Int).Mod(n, power(256))
	var w api.Word
	for i := range w {
		w[i] = new(big.Int).And(m, new(big.Int).SetUint64(full)).Uint64()
		m.Rsh(m, 64)
	}
	return w
}

// lowFirst: 32 bytes of a number, the lowest first.
func lowFirst(n *big.Int) api.Key {
	var k api.Key
	n.FillBytes(k[:])
	slices.Reverse(k[:])
	return k
}

// numberOf: of bytes, the lowest first.
func numberOf(b []byte) *big.Int {
	b = slices.Clone(b)
	slices.Reverse(b)
	return new(big.Int).SetBytes(b)
}

func pointOf(x, y *big.Int) ed.Point { return ed.Point{X: wordOf(x), Y: wordOf(y)} }

// plainOn: below P, and the equation.
func plainOn(p ed.Point) bool {
	x, y := bigOf(p.X), bigOf(p.Y)
	if x.Cmp(primeP()) >= 0 || y.Cmp(primeP()) >= 0 {
		return false
	}
	x2, y2 := times(x, x), times(y, y)
	return modP(less(y2, x2)).Cmp(modP(sum(num(1), times(curveD(), times(x2, y2))))) == 0
}

// plainAdd: the chapter's sum of two points that are on the curve.
func plainAdd(a, b ed.Point) ed.Point {
	x1, y1, x2, y2 := bigOf(a.X), bigOf(a.Y), bigOf(b.X), bigOf(b.Y)
	d := modP(times(curveD(), modP(times(times(x1, x2), times(y1, y2)))))
	return pointOf(
		over(sum(times(x1, y2), times(x2, y1)), sum(num(1), d)),
		over(sum(times(y1, y2), times(x1, x2)), less(num(1), d)))
}

// plainMul: by sums alone, the lowest bit first.
func plainMul(n *big.Int, p ed.Point) ed.Point {
	s := still
	for i := range n.BitLen() {
		if n.Bit(i) == 1 {
			s = plainAdd(s, p)
		}
		p = plainAdd(p, p)
	}
	return s
}

// away: the point that takes p away.
func away(p ed.Point) ed.Point { return pointOf(modP(less(primeP(), bigOf(p.X))), bigOf(p.Y)) }

// plainX: the X at that Y which is odd, or even; false: there is none.
func plainX(y *big.Int, odd bool) (*big.Int, bool) {
	y2 := times(y, y)
	square := over(less(y2, num(1)), sum(times(curveD(), y2), num(1)))
	x := new(big.Int).ModSqrt(square, primeP())
	if x == nil {
		return nil, false
	}
	if (x.Bit(0) == 1) != odd {
		x = modP(less(primeP(), x))
	}
	return x, (x.Bit(0) == 1) == odd
}

// plainEncode: Y's bytes and whether X is odd.
func plainEncode(p ed.Point) api.Key {
	k := lowFirst(modP(bigOf(p.Y)))
	k[31] |= byte(modP(bigOf(p.X)).Bit(0)) << 7
	return k
}

// plainDecode: the point; false: there is none.
func plainDecode(k api.Key) (ed.Point, bool) {
	odd := k[31] >= 0x80
	k[31] &= 0x7f
	y := numberOf(k[:])
	if y.Cmp(primeP()) >= 0 {
		return none, false
	}
	x, ok := plainX(y, odd)
	if !ok {
		return none, false
	}
	return pointOf(x, y), true
}

// plainBase: Y is 4 / 5, X even.
func plainBase(t *testing.T) ed.Point {
	t.Helper()
	y := over(num(4), num(5))
	x, ok := plainX(y, false)
	if !ok {
		t.Fatal("no base")
	}
	return pointOf(x, y)
}

// rounds: the points that come round after 1, 2, 4, 4 and four times 8 steps, in this order.
func rounds(t *testing.T) []ed.Point {
	t.Helper()
	eighth, ok := plainDecode(api.Key{0x26, 0xe8, 0x95, 0x8f, 0xc2, 0xb2, 0x27, 0xb0, 0x45, 0xc3, 0xf4, 0x89, 0xf2, 0xef, 0x98, 0xf0, 0xd5, 0xdf, 0xac, 0x05, 0xd3, 0xc6, 0x33, 0x39, 0xb1, 0x38, 0x02, 0x88, 0x6d, 0x53, 0xfc, 0x05})
	if !ok {
		t.Fatal("no point that comes round after 8")
	}
	var ps []ed.Point
	for _, n := range []int64{0, 4, 2, 6, 1, 3, 5, 7} {
		ps = append(ps, plainMul(num(n), eighth))
	}
	if less(primeP(), num(1)).Cmp(bigOf(ps[1].Y)) != 0 || ps[2].Y != (api.Word{}) || ps[4] == ps[5] {
		t.Fatal("the points that come round soon are others")
	}
	return ps
}

func source() *rand.Rand { return rand.New(rand.NewPCG(5, 501)) }

func draw(r *rand.Rand) api.Word { return api.Word{r.Uint64(), r.Uint64(), r.Uint64(), r.Uint64()} }

func drawBytes(r *rand.Rand, n int) []byte {
	b := make([]byte, n)
	for i := range b {
		b[i] = byte(r.Uint32())
	}
	return b
}

// drawPoint: any of the curve, those among them that the base does not make.
func drawPoint(r *rand.Rand) ed.Point {
	for {
		y := modP(bigOf(draw(r)))
		if x, ok := plainX(y, r.Uint32()&1 == 1); ok {
			return pointOf(x, y)
		}
	}
}

// points: those that come round soon, the base and near multiples, drawn ones.
func points(t *testing.T, drawn int) []ed.Point {
	t.Helper()
	base := plainBase(t)
	ps := append(rounds(t), base, away(base), plainAdd(base, base), plainMul(less(primeL(), num(1)), base), plainMul(primeL(), base))
	r := source()
	for range drawn {
		ps = append(ps, drawPoint(r))
	}
	return ps
}

// noPoints: pairs that are no point, some of which are one modulo P.
func noPoints(t *testing.T) []ed.Point {
	t.Helper()
	base, p := plainBase(t), primeP()
	ps := []ed.Point{none, {X: api.Word{1}}, {X: api.Word{1}, Y: api.Word{1}}, {X: ones, Y: ones}, {Y: api.Word{2}}, {X: base.X}, {Y: base.Y}, {X: base.Y, Y: base.X},
		pointOf(sum(bigOf(base.X), num(1)), bigOf(base.Y)), pointOf(bigOf(base.X), less(bigOf(base.Y), num(1))),
		pointOf(p, num(1)), pointOf(num(0), sum(p, num(1))), pointOf(p, sum(p, num(1))), pointOf(p, p), pointOf(num(0), p)}
	for _, q := range append(rounds(t), base, drawPoint(source())) {
		ps = append(ps, pointOf(sum(bigOf(q.X), p), bigOf(q.Y)), pointOf(bigOf(q.X), sum(bigOf(q.Y), p)), pointOf(sum(bigOf(q.X), p), sum(bigOf(q.Y), p)))
	}
	return ps
}
