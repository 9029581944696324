package ed

import (
	"iter"

	"conclave/api"
	"conclave/field"
	"conclave/word"
)

// spreadPoint: the point x / z, y / z, whose product of both is t / z. Sums of such points need no quotient, which takes as long as hundreds of products.
type spreadPoint struct{ x, y, z, t api.Word }

// addend: of a point, what each sum with it takes: Y - X, Y + X, 2 d X Y.
type addend struct{ less, more, twist api.Word }

func spread(p Point) spreadPoint {
	return spreadPoint{p.X, p.Y, one(), field.Mul(p.X, p.Y)}
}

// flat: the point itself; z is never 0, as d is no square and the sums' divisors are therefore never 0 on the curve.
func flat(s spreadPoint) Point {
	z := field.Inv(s.z)
	return Point{X: field.Mul(s.x, z), Y: field.Mul(s.y, z)}
}

func addendOf(p Point) addend {
	d := curve()
	return addend{field.Sub(p.Y, p.X), field.Add(p.Y, p.X), field.Mul(field.Add(d, d), field.Mul(p.X, p.Y))}
}

// plus: the chapter's sum, each part multiplied by 2 and by both divisors.
func plus(s spreadPoint, a addend) spreadPoint {
	less := field.Mul(field.Sub(s.y, s.x), a.less)
	more := field.Mul(field.Add(s.y, s.x), a.more)
	twist, z := field.Mul(s.t, a.twist), field.Add(s.z, s.z)
	return joined(field.Sub(more, less), field.Add(more, less), field.Add(z, twist), field.Sub(z, twist))
}

// twice: the sum of a point with itself. The curve's equation tells what the divisors are, and so spares products.
func twice(s spreadPoint) spreadPoint {
	x, y, z, sum := field.Mul(s.x, s.x), field.Mul(s.y, s.y), field.Mul(s.z, s.z), field.Add(s.x, s.y)
	more, less := field.Add(y, x), field.Sub(y, x)
	cross := field.Sub(field.Mul(sum, sum), more)
	return joined(cross, more, less, field.Sub(field.Add(z, z), less))
}

// joined: the point x / under, y / below, over one divisor.
func joined(x, y, under, below api.Word) spreadPoint {
	return spreadPoint{field.Mul(x, below), field.Mul(y, under), field.Mul(under, below), field.Mul(x, y)}
}

// both: n times p and m times q together. They share the doublings, which take most of the time of a signature's test.
func both(n api.Word, p Point, m api.Word, q Point) Point {
	a, b := addendOf(p), addendOf(q)
	s := spread(neutral())
	for inN, inM := range bits(n, m) {
		s = twice(s)
		if inN {
			s = plus(s, a)
		}
		if inM {
			s = plus(s, b)
		}
	}
	return flat(s)
}

// bits: those of two numbers side by side, from the highest byte that counts in one of them down.
func bits(n, m api.Word) iter.Seq2[bool, bool] {
	return func(yield func(bool, bool) bool) {
		for i := 8*word.Len(word.Or(n, m)) - 1; i >= 0; i-- {
			if !yield(bit(n, i), bit(m, i)) {
				return
			}
		}
	}
}

// bit: whether n has the bit i.
func bit(n api.Word, i int) bool { return n[i/64]>>(i%64)&1 == 1 }
