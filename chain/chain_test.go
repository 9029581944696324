package chain_test

import (
	"bytes"
	"encoding/hex"
	"fmt"
	"math"
	"math/big"
	"strings"
	"testing"

	"conclave/api"
	"conclave/chain"
)

// is: as it should be.
func is(t *testing.T, what string, got, want any) {
	t.Helper()
	if got, want := fmt.Sprint(got), fmt.Sprint(want); got != want {
		t.Errorf("%s: %.400s, not %.400s", what, got, want)
	}
}

func unhex(s string) []byte {
	b, err := hex.DecodeString(strings.ReplaceAll(s, " ", ""))
	if err != nil {
		panic(err)
	}
	return b
}

// data: n bytes, of all values.
func data(n int) []byte {
	out := make([]byte, n)
	for i := range out {
		out[i] = byte(i*7 + i/256)
	}
	return out
}

// hash: with something in all its bytes.
func hash(c byte) (h api.Hash) {
	for i := range h {
		h[i] = c + byte(i)*3
	}
	return h
}

// sig: with something in all its bytes.
func sig(c byte) (s api.Sig) {
	for i := range s {
		s[i] = c + byte(i)*5
	}
	return s
}

// change: a copy of something with something else in it.
func change[T any](x T, f func(x *T)) T {
	f(&x)
	return x
}

// Things with something in all their places.

func someBlock() api.Block {
	return api.Block{Height: 300, Prev: hash(1), State: hash(2), Proposer: 2, Round: 5, Txs: [][]byte{{1, 2}, {}, {5}, data(60)}}
}

func someVote() api.Vote {
	return api.Vote{Kind: 2, Height: 300, Round: 7, Block: hash(3), By: 4, Sig: sig(9)}
}

func someProposal() api.Proposal {
	return api.Proposal{Height: 301, Round: 9, Valid: 6, Block: someBlock(), By: 3, Sig: sig(8)}
}

func someCommit() api.Commit {
	c := api.Commit{Height: 302, Round: 11, Block: hash(5)}
	for i := range 3 {
		v := someVote()
		v.By, v.Round = i*2, 100+i
		c.Votes = append(c.Votes, v)
	}
	return c
}

// Things as texts, in which nil and empty are one.

func seenBlock(b api.Block) string {
	return fmt.Sprintf("[%d %x %x %d %d %d: %x]", b.Height, b.Prev, b.State, b.Proposer, b.Round, len(b.Txs), b.Txs)
}

func seenVote(v api.Vote) string {
	return fmt.Sprintf("(%d %d %d %x %d %x)", v.Kind, v.Height, v.Round, v.Block, v.By, v.Sig)
}

func seenProposal(p api.Proposal) string {
	return fmt.Sprintf("{%d %d %d %s %d %x}", p.Height, p.Round, p.Valid, seenBlock(p.Block), p.By, p.Sig)
}

func seenCommit(c api.Commit) string {
	text := fmt.Sprintf("<%d %d %x", c.Height, c.Round, c.Block)
	for _, v := range c.Votes {
		text += seenVote(v)
	}
	return text + ">"
}

// heights: at the edges of their encodings.
func heights() []uint64 {
	return []uint64{0, 1, 127, 128, 255, 256, 65535, 65536, math.MaxInt32, 1 << 31, math.MaxUint32, 1 << 32, 1<<56 - 1, 1 << 56, math.MaxInt64, 1 << 63, math.MaxUint64 - 1, math.MaxUint64}
}

// ints: at the edges of their encodings and of their limits, and beyond these.
func ints() []int {
	return []int{
		0, 1, 2, 127, 128, 255, 256, 65535, 65536, 1<<24 - 1, 1 << 24, math.MaxInt32 - 1, math.MaxInt32,
		math.MaxInt32 + 1, math.MaxInt32 + 2, math.MaxUint32, math.MaxUint32 + 1, math.MaxUint32 + 2, math.MaxInt64 - 1, math.MaxInt64,
		-1, -2, -128, math.MinInt32, math.MinInt32 - 1, -math.MaxUint32, -math.MaxUint32 - 1, math.MinInt64 + 1, math.MinInt64,
	}
}

// P1501: the chapter's example.
func TestExample(t *testing.T) {
	is(t, "Quorum, Some, Proposer", fmt.Sprint(chain.Quorum(4), chain.Some(4), chain.Quorum(1), chain.Proposer(5, 2, 4)), "3 2 1 3")
}

// P1501: the first of them, written out.
func TestQuorumByHand(t *testing.T) {
	var quorums, somes []int
	for n := 1; n <= 16; n++ {
		quorums = append(quorums, chain.Quorum(n))
		somes = append(somes, chain.Some(n))
	}
	is(t, "Quorum of 1 to 16", quorums, "[1 2 3 3 4 5 5 6 7 7 8 9 9 10 11 11]")
	is(t, "Some of 1 to 16", somes, "[1 1 2 2 2 3 3 3 4 4 4 5 5 5 6 6]")
}

// least: the least whole number q with 3q above m.
func least(m *big.Int) *big.Int {
	q := new(big.Int).Div(m, big.NewInt(3))
	return q.Add(q, big.NewInt(1))
}

// P1501: all numbers about 0, and those about the edges of an int, where twice the number is none; below 1 it is as 1.
func TestQuorum(t *testing.T) {
	var all []int
	for n := -1000; n <= 1000; n++ {
		all = append(all, n)
	}
	for d := range 10 {
		all = append(all, math.MaxInt64-d, math.MinInt64+d, math.MaxInt64/2+d-5, math.MaxInt64/3+d-5, math.MaxInt64/3*2+d-5, math.MaxInt32+d-5, math.MaxUint32+d-5, math.MinInt32+d-5)
	}
	for _, n := range all {
		m := big.NewInt(int64(max(n, 1)))
		is(t, fmt.Sprint("Quorum of ", n), chain.Quorum(n), least(new(big.Int).Lsh(m, 1)))
		is(t, fmt.Sprint("Some of ", n), chain.Some(n), least(m))
	}
	is(t, "of the greatest", fmt.Sprint(chain.Quorum(math.MaxInt64), chain.Some(math.MaxInt64)), "6148914691236517205 3074457345618258603")
}

// P1505: two quorums of n have Some in common: by their numbers, and all of them, of few.
func TestQuorumsMeet(t *testing.T) {
	for n := 1; n <= 3000; n++ {
		if common := 2*chain.Quorum(n) - n; common < chain.Some(n) {
			t.Errorf("two quorums of %d may have just %d in common", n, common)
		}
		if chain.Quorum(n) > n {
			t.Errorf("no quorum of %d", n)
		}
	}
	ones := func(set uint) int { return strings.Count(fmt.Sprintf("%b", set), "1") }
	for n := range 9 {
		for a := range uint(1) << n {
			for b := range uint(1) << n {
				if ones(a) >= chain.Quorum(n) && ones(b) >= chain.Quorum(n) && ones(a&b) < chain.Some(n) {
					t.Errorf("quorums of %d: %b and %b", n, a, b)
				}
			}
		}
	}
}

// P1501: each validator proposes in its turn, round by round and height by height.
func TestProposerTurns(t *testing.T) {
	var turns []int
	for height := uint64(1); height < 6; height++ {
		for round := range 4 {
			turns = append(turns, chain.Proposer(height, round, 3))
		}
	}
	is(t, "who proposes", turns, "[1 2 0 1 2 0 1 2 0 1 2 0 1 2 0 1 2 0 1 2]")
	is(t, "alone", fmt.Sprint(chain.Proposer(0, 0, 1), chain.Proposer(9, 8, 1), chain.Proposer(math.MaxUint64, math.MaxInt64, 1)), "0 0 0")
}

// P1501: heights, rounds and numbers of validators at all edges together: the sum is a whole number.
func TestProposer(t *testing.T) {
	many := append(ints(), 3, 4, 5, 7, 10, 16, 17)
	for _, height := range heights() {
		for _, round := range ints() {
			for _, n := range many {
				sum := new(big.Int).SetUint64(height)
				sum.Add(sum, big.NewInt(int64(max(round, 0))))
				sum.Mod(sum, big.NewInt(int64(max(n, 1))))
				is(t, fmt.Sprint("Proposer of ", height, round, n), chain.Proposer(height, round, n), sum)
			}
		}
	}
	is(t, "the greatest", fmt.Sprint(chain.Proposer(math.MaxUint64, math.MaxInt64, 16), chain.Proposer(math.MaxUint64, math.MaxInt64, 10), chain.Proposer(math.MaxUint64, math.MaxInt64, math.MaxInt64)), "14 2 1")
}

// P1502: Hash is that of the encoding, and hangs on each field; of a block that is not right it is zero.
func TestHash(t *testing.T) {
	is(t, "Hash written out", fmt.Sprintf("%x", chain.Hash(api.Block{Height: 1})), "fa38e4482f312d8c06f3da55027a115628e302aeebfe53779f69b1d7fb1377e6")
	met := map[api.Hash]bool{}
	rows := append(blocks(), someBlock(), change(someBlock(), func(b *api.Block) { b.Txs = [][]byte{{1, 2}, {}, data(60), {5}} }))
	for _, b := range rows {
		is(t, "Hash of "+seenBlock(b), chain.Hash(b), plainHash(b))
		if plainRight(b) {
			met[chain.Hash(b)] = true
		} else {
			is(t, "Hash of one that is not right: "+seenBlock(b), chain.Hash(b), api.Hash{})
		}
	}
	if len(met) < 50 {
		t.Errorf("just %d hashes", len(met))
	}
	if met[api.Hash{}] {
		t.Errorf("a hash that is zero")
	}
	for _, b := range []api.Block{{}, {Height: 1, Proposer: -1}, {Height: 1, Round: 1 << 31}, {Height: 1, Txs: make([][]byte, 65)}, {Height: 1, Txs: [][]byte{data(24576)}}, {Height: 1, Txs: [][]byte{data(65536)}}} {
		is(t, "Hash of one that is not right", chain.Hash(b), api.Hash{})
	}
}

// P1503: texts written out.
func TestBytesByHand(t *testing.T) {
	v := api.Vote{Kind: 1, Height: 128, Round: 2, Block: api.Hash(unhex(strings.Repeat("33", 32))), By: 9, Sig: sig(1)}
	vote, proposal := "8d"+hex.EncodeToString([]byte("conclave vote")), "91"+hex.EncodeToString([]byte("conclave proposal"))
	is(t, "a vote", fmt.Sprintf("%x", chain.VoteBytes(7, v)), strings.ReplaceAll("f4 "+vote+" 07 01 8180 02 a0"+strings.Repeat("33", 32), " ", ""))
	is(t, "a vote of chain 0", fmt.Sprintf("%x", chain.VoteBytes(0, v)), strings.ReplaceAll("f4 "+vote+" 80 01 8180 02 a0"+strings.Repeat("33", 32), " ", ""))
	b := api.Block{Height: 128}
	h := fmt.Sprintf("%x", chain.Hash(b))
	p := api.Proposal{Height: 128, Round: 2, Valid: -1, Block: b, By: 5, Sig: sig(2)}
	is(t, "a proposal", fmt.Sprintf("%x", chain.ProposalBytes(300, p)), strings.ReplaceAll("f83a "+proposal+" 82012c 8180 02 80 a0"+h, " ", ""))
	p.Valid = 0
	is(t, "a proposal with a valid round", fmt.Sprintf("%x", chain.ProposalBytes(300, p)), strings.ReplaceAll("f83a "+proposal+" 82012c 8180 02 01 a0"+h, " ", ""))
	p.Block = api.Block{}
	is(t, "a proposal of no block", fmt.Sprintf("%x", chain.ProposalBytes(300, p)), strings.ReplaceAll("f83a "+proposal+" 82012c 8180 02 01 a0"+strings.Repeat("00", 32), " ", ""))
}

// P1503: each number at its edges and beyond them; of those below 0, and of Valid below -1, a 0 is signed.
func TestBytes(t *testing.T) {
	for _, id := range heights() {
		is(t, fmt.Sprint("a vote of chain ", id), fmt.Sprintf("%x", chain.VoteBytes(id, someVote())), fmt.Sprintf("%x", plainVoteText(id, someVote())))
		is(t, fmt.Sprint("a proposal of chain ", id), fmt.Sprintf("%x", chain.ProposalBytes(id, someProposal())), fmt.Sprintf("%x", plainProposalText(id, someProposal())))
	}
	for _, v := range votes() {
		is(t, "VoteBytes of "+seenVote(v), fmt.Sprintf("%x", chain.VoteBytes(7, v)), fmt.Sprintf("%x", plainVoteText(7, v)))
	}
	for _, p := range proposals() {
		is(t, "ProposalBytes of "+seenProposal(p), fmt.Sprintf("%x", chain.ProposalBytes(7, p)), fmt.Sprintf("%x", plainProposalText(7, p)))
	}
	same := func(a, b []byte) bool { return bytes.Equal(a, b) }
	low := someVote()
	low.Kind, low.Round = -5, -1
	nought := someVote()
	nought.Kind, nought.Round = 0, 0
	is(t, "a vote with numbers below 0", same(chain.VoteBytes(7, low), chain.VoteBytes(7, nought)), true)
	for _, n := range []int{-1, -2, -3, math.MinInt64} {
		p := change(someProposal(), func(p *api.Proposal) { p.Valid = n })
		none := change(someProposal(), func(p *api.Proposal) { p.Valid = -1 })
		first := change(someProposal(), func(p *api.Proposal) { p.Valid = 0 })
		is(t, fmt.Sprint("Valid ", n, " as -1"), same(chain.ProposalBytes(7, p), chain.ProposalBytes(7, none)), true)
		is(t, fmt.Sprint("Valid ", n, " as 0"), same(chain.ProposalBytes(7, p), chain.ProposalBytes(7, first)), false)
	}
}

// P1503: By and Sig are not signed, and of a block just its hash is.
func TestNotSigned(t *testing.T) {
	v := change(someVote(), func(v *api.Vote) { v.By, v.Sig = -9, sig(77) })
	is(t, "VoteBytes", bytes.Equal(chain.VoteBytes(7, v), chain.VoteBytes(7, someVote())), true)
	p := change(someProposal(), func(p *api.Proposal) { p.By, p.Sig = 1<<40, sig(77) })
	is(t, "ProposalBytes", bytes.Equal(chain.ProposalBytes(7, p), chain.ProposalBytes(7, someProposal())), true)
	a := change(someProposal(), func(p *api.Proposal) { p.Block.Height = 0 })
	b := change(someProposal(), func(p *api.Proposal) { p.Block.Txs = make([][]byte, 65) })
	is(t, "ProposalBytes of blocks that are not right", bytes.Equal(chain.ProposalBytes(7, a), chain.ProposalBytes(7, b)), true)
}
