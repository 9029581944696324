package gas_test

import (
	"bytes"
	"math/big"
	"math/rand/v2"
	"testing"

	"conclave/api"
)

const full = 1<<64 - 1

// The chapter's words said over again, with numbers that have no end.

func of(n uint64) *big.Int { return new(big.Int).SetUint64(n) }

func small(n int64) *big.Int { return big.NewInt(n) }

func sum(ns ...*big.Int) *big.Int {
	out := new(big.Int)
	for _, n := range ns {
		out.Add(out, n)
	}
	return out
}

func times(a, b *big.Int) *big.Int { return new(big.Int).Mul(a, b) }

// part: a / b, rounded down (neither is below 0).
func part(a *big.Int, b int64) *big.Int { return new(big.Int).Div(a, small(b)) }

func least(a, b *big.Int) *big.Int {
	if a.Cmp(b) < 0 {
		return a
	}
	return b
}

func numberOf(w api.Word) *big.Int {
	n := new(big.Int)
	for i := 3; i >= 0; i-- {
		n.Lsh(n, 64).Or(n, of(w[i]))
	}
	return n
}

// sized: what a size costs, or 2^62, if it is above 2^32.
func sized(n uint64, cost *big.Int) *big.Int {
	if n > 4294967296 {
		return new(big.Int).Exp(small(2), small(62), nil)
	}
	return cost
}

func plainWords(n uint64) *big.Int { return sized(n, wordsOf(n)) }

// wordsOf: n / 32, rounded up.
func wordsOf(n uint64) *big.Int {
	w := part(of(n), 32)
	if n%32 != 0 {
		w = sum(w, small(1))
	}
	return w
}

func plainMemory(n uint64) *big.Int {
	w := wordsOf(n)
	return sized(n, sum(times(small(3), w), part(times(w, w), 512)))
}

func plainHash(n uint64) *big.Int { return sized(n, sum(small(30), times(small(6), wordsOf(n)))) }

func plainCopy(n uint64) *big.Int { return sized(n, times(small(3), wordsOf(n))) }

func plainLog(topics int, n uint64) *big.Int {
	if topics < 0 {
		topics = 0
	} else if topics > 4 {
		topics = 4
	}
	return sized(n, sum(small(375), small(375*int64(topics)), times(small(8), of(n))))
}

func plainCreate(n uint64, hashed bool) *big.Int {
	cost := sum(small(32000), times(small(2), wordsOf(n)))
	if hashed {
		cost = sum(cost, times(small(6), wordsOf(n)))
	}
	return sized(n, cost)
}

func plainIntrinsic(data []byte, create bool) *big.Int {
	noughts := int64(bytes.Count(data, []byte{0}))
	cost := small(21000 + 4*noughts + 16*(int64(len(data))-noughts))
	if create {
		cost = sum(cost, small(32000), times(small(2), plainWords(uint64(len(data)))))
	}
	return cost
}

func plainExp(e api.Word) *big.Int { return small(10 + 50*int64(len(numberOf(e).Bytes()))) }

func plainSstore(first, now, next api.Word, warm bool) (*big.Int, *big.Int) {
	f, o, n := numberOf(first), numberOf(now), numberOf(next)
	cost, refund := small(0), small(0)
	if !warm {
		cost = sum(cost, small(2100))
	}
	if n.Cmp(o) == 0 {
		return sum(cost, small(100)), refund
	}
	if o.Cmp(f) == 0 {
		if f.Sign() == 0 {
			cost = sum(cost, small(20000))
		} else {
			cost = sum(cost, small(2900))
		}
		if n.Sign() == 0 {
			refund = small(4800)
		}
		return cost, refund
	}
	if f.Sign() != 0 && o.Sign() == 0 {
		refund = sum(refund, small(-4800))
	}
	if f.Sign() != 0 && n.Sign() == 0 && o.Sign() != 0 {
		refund = sum(refund, small(4800))
	}
	if n.Cmp(f) == 0 && f.Sign() == 0 {
		refund = sum(refund, small(19900))
	}
	if n.Cmp(f) == 0 && f.Sign() != 0 {
		refund = sum(refund, small(2800))
	}
	return sum(cost, small(100)), refund
}

func plainForward(left uint64, asked api.Word) *big.Int {
	most := new(big.Int).Sub(of(left), part(of(left), 64))
	return least(numberOf(asked), most)
}

func plainRefund(used uint64, refund int64) *big.Int {
	if refund <= 0 {
		return small(0)
	}
	return least(small(refund), part(of(used), 5))
}

// source: the same numbers at each run.
func source() *rand.Rand { return rand.New(rand.NewPCG(12, 1)) }

// drawn: a number of any size.
func drawn(r *rand.Rand) uint64 { return r.Uint64() >> r.IntN(64) }

// drawnWord: a word of any size.
func drawnWord(r *rand.Rand) api.Word {
	var w api.Word
	for i := range r.IntN(5) {
		w[i] = drawn(r)
	}
	return w
}

// same: the answer is what the words said over again give.
func same(t *testing.T, got uint64, want *big.Int, what string, args ...any) {
	t.Helper()
	if of(got).Cmp(want) != 0 {
		t.Fatalf("%s of %v: %d, not %v", what, args, got, want)
	}
}
