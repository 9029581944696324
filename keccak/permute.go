package keccak

import (
	"math/bits"
	"slices"
)

const (
	side   = 5
	lanes  = side * side
	rounds = 24
)

// state: the lane of the column x and the row y stands at x + side y.
type state [lanes]uint64

// path: the places through which rho and pi lead the lanes, from each to the next; it ends where it begins.
var path = [lanes]uint8{1, 10, 7, 11, 17, 18, 3, 5, 16, 8, 21, 24, 4, 15, 23, 19, 13, 12, 2, 20, 14, 22, 9, 6, 1}

// Permute: Keccak-f[1600].
func Permute(s [25]uint64) [25]uint64 {
	p := state(s)
	for _, c := range constants() {
		p.spread(p.sums())
		p.walk()
		p.mix()
		p[0] ^= c
	}
	return p
}

// Undo: the state that Permute makes this one of.
func Undo(s [25]uint64) [25]uint64 {
	p := state(s)
	table := constants()
	for _, c := range slices.Backward(table[:]) {
		p[0] ^= c
		p.unmix()
		p.walkBack()
		p.spread(sumsBefore(p.sums()))
	}
	return p
}

// constants: what iota adds, round by round.
func constants() [rounds]uint64 {
	return [rounds]uint64{
		0x0000000000000001, 0x0000000000008082, 0x800000000000808a, 0x8000000080008000,
		0x000000000000808b, 0x0000000080000001, 0x8000000080008081, 0x8000000000008009,
		0x000000000000008a, 0x0000000000000088, 0x0000000080008009, 0x000000008000000a,
		0x000000008000808b, 0x800000000000008b, 0x8000000000008089, 0x8000000000008003,
		0x8000000000008002, 0x8000000000000080, 0x000000000000800a, 0x800000008000000a,
		0x8000000080008081, 0x8000000000008080, 0x0000000080000001, 0x8000000080008008,
	}
}

// sums: of the columns, from the first on. (Five numbers and no array: theta stands in every round, and is thrice as quick so.)
func (s *state) sums() (a, b, c, d, e uint64) {
	for y := 0; y < lanes; y += side {
		a ^= s[y]
		b ^= s[y+1]
		c ^= s[y+2]
		d ^= s[y+3]
		e ^= s[y+4]
	}
	return a, b, c, d, e
}

// spread: theta, of a state whose columns have these sums. What it adds hangs on the sums alone: so it takes back, too, what it did to a state of these sums.
func (s *state) spread(a, b, c, d, e uint64) {
	a, b, c, d, e = between(e, b), between(a, c), between(b, d), between(c, e), between(d, a)
	for y := 0; y < lanes; y += side {
		s[y] ^= a
		s[y+1] ^= b
		s[y+2] ^= c
		s[y+3] ^= d
		s[y+4] ^= e
	}
}

// between: what theta adds to a lane between columns of these sums.
func between(left, right uint64) uint64 { return left ^ bits.RotateLeft64(right, 1) }

// sumsBefore: the sums that the columns had ahead of theta.
//
// A column has five lanes, so theta adds to its sum what it adds to each of them. Done 192 times, that changes no sum; so 191 times take it back, and 191 is made of these powers of two.
func sumsBefore(a, b, c, d, e uint64) (uint64, uint64, uint64, uint64, uint64) {
	s := [side]uint64{a, b, c, d, e}
	for _, n := range [...]int{1, 2, 4, 8, 16, 32, 128} {
		s = sumsBehind(s, n)
	}
	return s[0], s[1], s[2], s[3], s[4]
}

// sumsBehind: the sums behind n times theta, n a power of two: all that is added meets itself and is gone, but the sums n columns away, turned n times.
func sumsBehind(s [side]uint64, n int) [side]uint64 {
	var t [side]uint64
	for x := range side {
		left, right := s[(x+4*n)%side], s[(x+n)%side]
		t[x] = s[x] ^ left ^ bits.RotateLeft64(right, n)
	}
	return t
}

// walk: rho and pi, along the path.
func (s *state) walk() {
	lane := s[path[0]]
	for t := range lanes - 1 {
		to := path[t+1]
		lane, s[to] = s[to], bits.RotateLeft64(lane, turn(t))
	}
}

// walkBack: rho and pi taken back, along the path from its end.
func (s *state) walkBack() {
	lane := s[path[lanes-1]]
	for t := lanes - 2; t >= 0; t-- {
		to := path[t]
		lane, s[to] = s[to], bits.RotateLeft64(lane, -turn(t))
	}
}

// turn: rho's offset at the path's step t, whole: 64 turns are none.
func turn(t int) int { return (t + 1) * (t + 2) / 2 }

// mix: chi.
func (s *state) mix() {
	for y := 0; y < lanes; y += side {
		a, b, c, d, e := s[y], s[y+1], s[y+2], s[y+3], s[y+4]
		s[y] = a ^ c&^b
		s[y+1] = b ^ d&^c
		s[y+2] = c ^ e&^d
		s[y+3] = d ^ a&^e
		s[y+4] = e ^ b&^a
	}
}

// unmix: chi done four times changes nothing, so three times take it back.
func (s *state) unmix() {
	for range 3 {
		s.mix()
	}
}
