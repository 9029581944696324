package sha

import "math/bits"

const (
	wordBytes  = 8
	blockWords = 16
	blockBytes = blockWords * wordBytes
)

// behind: the state behind a block.
func behind(s [stateWords]uint64, block [blockBytes]byte) [stateWords]uint64 {
	words := schedule(block)
	a, b, c, d, e, f, g, h := s[0], s[1], s[2], s[3], s[4], s[5], s[6], s[7]
	for t, k := range stepConstants() {
		t1 := h + bigSigma1(e) + choose(e, f, g) + k + words[t]
		t2 := bigSigma0(a) + majority(a, b, c)
		a, b, c, d, e, f, g, h = t1+t2, a, b, c, d+t1, e, f, g
	}
	for i, w := range [stateWords]uint64{a, b, c, d, e, f, g, h} {
		s[i] += w
	}
	return s
}

// schedule: the block's words and those that go on from them, one for each step.
func schedule(block [blockBytes]byte) [steps]uint64 {
	var w [steps]uint64
	for i, b := range block {
		w[i/wordBytes] = w[i/wordBytes]<<8 | uint64(b)
	}
	for t := blockWords; t < steps; t++ {
		w[t] = smallSigma1(w[t-2]) + w[t-7] + smallSigma0(w[t-15]) + w[t-16]
	}
	return w
}

func smallSigma0(x uint64) uint64 { return turn(x, 1) ^ turn(x, 8) ^ x>>7 }
func smallSigma1(x uint64) uint64 { return turn(x, 19) ^ turn(x, 61) ^ x>>6 }
func bigSigma0(x uint64) uint64   { return turn(x, 28) ^ turn(x, 34) ^ turn(x, 39) }
func bigSigma1(x uint64) uint64   { return turn(x, 14) ^ turn(x, 18) ^ turn(x, 41) }

// turn: x turned right.
func turn(x uint64, n int) uint64 { return bits.RotateLeft64(x, -n) }

// choose: y's bits where x has 1, else z's.
func choose(x, y, z uint64) uint64 { return x&y | z&^x }

// majority: the bits that two or three of them have.
func majority(x, y, z uint64) uint64 { return x&y | x&z | y&z }
