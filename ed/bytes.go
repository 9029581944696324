package ed

import (
	"conclave/api"
	"conclave/field"
	"conclave/word"
)

const oddBit = 0x80 // of a key's last byte: X is odd

// Encode: Y's bytes, the lowest first, with X's lowest bit in the highest place, which Y leaves free.
func Encode(p Point) api.Key {
	var k api.Key
	copy(k[:], field.Bytes(p.Y))
	if field.Bytes(p.X)[0]&1 == 1 {
		k[len(k)-1] |= oddBit
	}
	return k
}

// Decode: the point that Encode writes so.
func Decode(k api.Key) (Point, api.Errno) {
	odd := k[len(k)-1]&oddBit != 0
	k[len(k)-1] &^= oddBit
	y, wrong := field.Read(k[:])
	if wrong != api.OK {
		return Point{}, api.ErrPoint
	}
	x, fits := field.Sqrt(squareOfX(y))
	if !fits || odd && word.Zero(x) { // 0 is its own opposite, and even
		return Point{}, api.ErrPoint
	}
	p := Point{X: x, Y: y}
	if odd {
		return opposite(p), api.OK
	}
	return p, api.OK
}

// squareOfX: what the curve's equation makes X^2 at that Y: (Y^2 - 1) / (d Y^2 + 1). The divisor is never 0, as -1 / d is no square.
func squareOfX(y api.Word) api.Word {
	y2 := field.Mul(y, y)
	return field.Mul(field.Sub(y2, one()), field.Inv(field.Add(field.Mul(curve(), y2), one())))
}
