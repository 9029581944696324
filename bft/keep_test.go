package bft_test

import (
	"bytes"
	"fmt"
	"math"
	"testing"

	"conclave/api"
	"conclave/bft"
)

// blockOf: one whose encoding has so many bytes, for so many that Txs are of some 8000 bytes.
func blockOf(t *testing.T, size int) api.Block {
	b := block(1)
	b.Txs = [][]byte{make([]byte, 8000), make([]byte, 8000), make([]byte, 8000)}
	known := len(plainBlockBytes(b))
	b.Txs[2] = make([]byte, 8000+size-known)
	if got := len(plainBlockBytes(b)); got != size {
		t.Fatalf("a block of %d bytes, not %d", got, size)
	}
	return b
}

// plainBlockBytes: the encoding of a block, right or not.
func plainBlockBytes(b api.Block) []byte {
	var txs [][]byte
	for _, tx := range b.Txs {
		txs = append(txs, plainStr(tx))
	}
	return plainList(plainNum(int(b.Height)), plainStr(b.Prev[:]), plainStr(b.State[:]), plainNum(b.Proposer), plainNum(b.Round), plainList(txs...))
}

// wrongProposals: of four validators, each with one thing that keeps it from being kept; a right one is proposal(4, 2, 1, 1).
func wrongProposals(t *testing.T) map[string]api.Proposal {
	l := map[string]api.Proposal{}
	change := func(what string, how func(p *api.Proposal)) {
		p := proposal(4, 2, 1, 1)
		how(&p)
		l[what] = p
	}
	for _, height := range []uint64{0, tall - 1, tall + 1, tall + 4, tall + 1<<32, math.MaxUint64} {
		change(fmt.Sprint("height ", height), func(p *api.Proposal) { p.Height = height })
		change(fmt.Sprint("block's height ", height), func(p *api.Proposal) { p.Block.Height = height })
		change(fmt.Sprint("both heights ", height), func(p *api.Proposal) { p.Height, p.Block.Height = height, height })
	}
	for _, round := range []int{-1, -2, -4, math.MinInt, highest + 1, highest + 2, highest + 3, highest + 4, highest + 5, 1<<32 + 2, math.MaxInt} {
		for by := range 4 {
			change(fmt.Sprint("round ", round, " by ", by), func(p *api.Proposal) { p.Round, p.By, p.Valid = round, by, -1 })
		}
	}
	for _, valid := range []int{math.MinInt, -3, -2, 2, 3, highest, math.MaxInt} {
		change(fmt.Sprint("valid ", valid), func(p *api.Proposal) { p.Valid = valid })
	}
	for _, by := range []int{math.MinInt, -1, 0, 2, 3, 4, 5, 1<<32 + 1, math.MaxInt} {
		change(fmt.Sprint("by ", by), func(p *api.Proposal) { p.By = by })
	}
	for _, n := range []int{-1, highest + 1, math.MinInt, math.MaxInt} {
		change(fmt.Sprint("block's proposer ", n), func(p *api.Proposal) { p.Block.Proposer = n })
		change(fmt.Sprint("block's round ", n), func(p *api.Proposal) { p.Block.Round = n })
	}
	change("too many txs", func(p *api.Proposal) { p.Block.Txs = make([][]byte, api.MaxTxs+1) })
	change("too long", func(p *api.Proposal) { p.Block = blockOf(t, api.MaxBlock+1) })
	change("far too long", func(p *api.Proposal) { p.Block.Txs = [][]byte{make([]byte, 1<<20)} })
	return l
}

// P1803: proposals that are not kept: nothing is asked, told or changed, and the first that is right is kept in spite of them.
func TestProposeWrong(t *testing.T) {
	for what, p := range wrongProposals(t) {
		asked := 0
		m := madeBy(t, 4, 0, func(api.Block) bool { asked++; return true })
		m.Start()
		m.Timeout(3, 0)
		m.Timeout(3, 1)
		votes(m, prevote, 1, 1, 0, 1, 2)
		was := m.Save()
		says(t, what, m.Propose(p), "")
		if asked > 0 {
			t.Errorf("%s: asked", what)
		}
		stands(t, what, m, "round 2 step 1")
		if !bytes.Equal(m.Save(), was) {
			t.Errorf("%s: changed", what)
		}
		says(t, what+", then a right one", m.Propose(proposal(4, 2, 1, 1)), "prevote 2 for b1")
		if asked != 1 {
			t.Errorf("%s: asked %d times", what, asked)
		}
	}
}

// P1803: a proposal that is not kept is none of its proposer's: nobody is ahead by it, no timer comes by it, and it commits nothing.
func TestProposeWrongVoices(t *testing.T) {
	m := made(t, 3, 0)
	m.Start()
	p := proposal(3, 3, -1, 1)
	p.Valid = 3
	m.Propose(p)
	says(t, "one is ahead", m.Vote(prevote(3, 0, 1)), "")
	votes(m, precommit, 2, 1, 0, 1, 2)
	p = proposal(3, 2, -1, 1)
	p.By = 2
	says(t, "by another one", m.Propose(p), "")
	stands(t, "not committed", m, "round 2 step 1")
	says(t, "by who proposes", m.Propose(proposal(3, 2, -1, 1)), "commit 2 for b1 block b1")
}

// P1803: just the edges of what is kept: rounds, Valid, blocks.
func TestProposeEdges(t *testing.T) {
	for _, round := range []int{0, 1, 2, 3, 1 << 16, highest - 1, highest} {
		for _, valid := range []int{-1, 0, round / 2, round - 1} {
			m := made(t, 3, 1)
			m.Propose(proposal(3, round, min(valid, round-1), 1))
			votes(m, precommit, round, 1, 0, 1, 2)
			says(t, fmt.Sprint("round ", round, " valid ", valid), m.Start(), fmt.Sprintf("propose 0 valid -1; timer 0 which 1; commit %d for b1 block b1", round))
		}
	}
	for what, b := range map[string]api.Block{
		"the longest":       blockOf(t, api.MaxBlock),
		"the most txs":      {Height: tall, Txs: make([][]byte, api.MaxTxs)},
		"no txs":            {Height: tall},
		"the greatest ints": {Height: tall, Proposer: highest, Round: highest},
	} {
		m := made(t, 1, 0)
		m.Start()
		p := proposal(1, 0, -1, 1)
		p.Block = b
		told := m.Propose(p)
		if len(told) != 1 || told[0].Kind != bft.Prevote || told[0].Hash == (api.Hash{}) {
			t.Fatalf("%s: told %v", what, told)
		}
		h := told[0].Hash
		m.Vote(api.Vote{Kind: api.Prevote, Height: tall, Block: h})
		told = m.Vote(api.Vote{Kind: api.Precommit, Height: tall, Block: h})
		if len(told) != 1 || told[0].Kind != bft.Commit || told[0].Hash != h || !bytes.Equal(plainBlockBytes(told[0].Block), plainBlockBytes(b)) {
			t.Fatalf("%s: told %v", what, told)
		}
	}
}

// P1803: of each round the first proposal alone is kept, whether its block is right or not, behind the end too; right is asked once for each that is kept, of its block.
func TestProposeFirst(t *testing.T) {
	var asked []string
	right := func(b api.Block) bool {
		asked = append(asked, seenBlock(b))
		return b.Proposer != 2
	}
	m := madeBy(t, 4, 0, right)
	m.Propose(proposal(4, 0, -1, 2))
	m.Propose(proposal(4, 0, -1, 1))
	m.Propose(proposal(4, 0, -1, 2))
	says(t, "Start", m.Start(), "timer 0 which 1; prevote 0")
	says(t, "votes for the second", votes(m, prevote, 0, 1, 0, 1, 2), "timer 0 which 2")
	says(t, "votes for the second", votes(m, precommit, 0, 1, 0, 1, 2), "timer 0 which 3")
	m.Propose(proposal(4, 0, -1, 1))
	stands(t, "the second is not kept", m, "round 0 step 2")
	says(t, "of another round", m.Propose(proposal(4, 5, -1, 1)), "")
	says(t, "of another round, again", m.Propose(proposal(4, 5, 3, 3)), "")
	says(t, "its precommits", votes(m, precommit, 5, 1, 1, 2, 3), "propose 5 valid -1; timer 5 which 1; prevote 5 for b1; commit 5 for b1 block b1")
	m.Propose(proposal(4, 5, -1, 4))
	m.Propose(proposal(4, 6, -1, 4))
	m.Propose(proposal(4, 6, -1, 3))
	if got := fmt.Sprint(asked); got != "[b2 b1 b4]" {
		t.Errorf("asked: %s", got)
	}
}

// P1803: a function that panics calls no block right, and is asked no more; one that calls the machine is not asked for ever.
func TestProposeRight(t *testing.T) {
	asked := 0
	m := madeBy(t, 1, 0, func(api.Block) bool { asked++; panic("no") })
	m.Start()
	says(t, "a panic", m.Propose(proposal(1, 0, -1, 1)), "prevote 0")
	says(t, "again", m.Propose(proposal(1, 0, -1, 1)), "")
	says(t, "its votes", append(votes(m, prevote, 0, 1, 0), votes(m, precommit, 0, 1, 0)...), "timer 0 which 2; timer 0 which 3")
	if asked != 1 {
		t.Errorf("asked %d times", asked)
	}
	asked = 0
	var self *bft.Machine
	self = madeBy(t, 1, 0, func(b api.Block) bool {
		asked++
		self.Propose(proposal(1, 0, -1, 2))
		return true
	})
	says(t, "a machine that is called", self.Propose(proposal(1, 0, -1, 1)), "")
	says(t, "Start", self.Start(), "propose 0 valid -1; timer 0 which 1; prevote 0 for b1")
	if asked != 1 {
		t.Errorf("asked %d times", asked)
	}
}

// wrongVotes: of four validators, each with one thing that keeps it from being kept.
func wrongVotes() map[string]api.Vote {
	l := map[string]api.Vote{}
	change := func(what string, how func(v *api.Vote)) {
		for kind := 1; kind <= 2; kind++ {
			v := prevote(2, 1, 1)
			v.Kind = kind
			how(&v)
			l[fmt.Sprint(what, " of kind ", kind)] = v
		}
	}
	for _, kind := range []int{math.MinInt, -1, 0, 3, 4, 5, 1<<32 + 1, math.MaxInt} {
		change(fmt.Sprint("kind ", kind), func(v *api.Vote) { v.Kind = kind })
	}
	for _, height := range []uint64{0, tall - 1, tall + 1, tall + 1<<32, math.MaxUint64} {
		change(fmt.Sprint("height ", height), func(v *api.Vote) { v.Height = height })
	}
	for _, round := range []int{math.MinInt, -2, -1, highest + 1, highest + 3, 1<<32 + 2, math.MaxInt} {
		change(fmt.Sprint("round ", round), func(v *api.Vote) { v.Round = round })
	}
	for _, by := range []int{math.MinInt, -1, 4, 5, 15, 16, 17, 1<<32 + 1, math.MaxInt} {
		change(fmt.Sprint("by ", by), func(v *api.Vote) { v.By = by })
	}
	return l
}

// P1803: votes that are not kept: nothing is told or changed, and Votes has none of them.
func TestVoteWrong(t *testing.T) {
	for what, v := range wrongVotes() {
		m := at(t, 4, 0, 2)
		says(t, what, m.Vote(v), "")
		if l := m.Votes(v.Kind, v.Round, v.Block); len(l) != 0 {
			t.Errorf("%s: kept", what)
		}
		votes(m, prevote, 2, 2, 0)
		votes(m, precommit, 2, 3, 3)
		says(t, what+" again", m.Vote(v), "")
		stands(t, what, m, "round 2 step 1")
		for kind := 1; kind <= 2; kind++ {
			if l := m.Votes(kind, 2, hash(1)); len(l) != 0 {
				t.Errorf("%s: kept", what)
			}
		}
		says(t, "one more", m.Vote(precommit(2, 1, 1)), "")
		says(t, "enough", m.Vote(precommit(2, 2, 1)), "timer 2 which 3")
	}
}

// P1803, P1804: of each round, kind, validator and hash the first vote is kept, with its signature; who votes for two is kept for both.
func TestVoteFirst(t *testing.T) {
	m := made(t, 4, 0)
	for _, round := range []int{0, 1, 5, highest} {
		for kind := 1; kind <= 2; kind++ {
			for _, by := range []int{3, 0, 2} {
				for tag := range 4 {
					v := prevote(round, by, tag)
					v.Kind, v.Sig = kind, api.Sig{byte(by), byte(tag), byte(kind)}
					says(t, "Vote", m.Vote(v), "")
					v.Sig = api.Sig{}
					says(t, "another signature", m.Vote(v), "")
					v.Sig[63] = 1
					says(t, "another signature", m.Vote(v), "")
				}
			}
		}
	}
	for _, round := range []int{0, 1, 5, highest} {
		for kind := 1; kind <= 2; kind++ {
			for tag := range 4 {
				var want []api.Vote
				for _, by := range []int{0, 2, 3} {
					v := prevote(round, by, tag)
					v.Kind, v.Sig = kind, api.Sig{byte(by), byte(tag), byte(kind)}
					want = append(want, v)
				}
				if got := m.Votes(kind, round, hash(tag)); fmt.Sprint(got) != fmt.Sprint(want) {
					t.Errorf("votes %d of round %d for b%d: %v, not %v", kind, round, tag, got, want)
				}
			}
		}
	}
}

// P1804: Votes of what there is not.
func TestVotesNone(t *testing.T) {
	m := at(t, 4, 0, 0)
	votes(m, prevote, 0, 1, 0, 1)
	votes(m, prevote, 0, 0, 3)
	votes(m, precommit, 1, 2, 2)
	has(t, "prevotes", m, 1, 0, 1, 0, 1)
	has(t, "prevotes for none", m, 1, 0, 0, 3)
	has(t, "precommits", m, 2, 1, 2, 2)
	for _, x := range []int{math.MinInt, -1, 0, 1, 2, 3, 1 << 32, 1<<32 + 1, math.MaxInt} {
		for _, y := range []int{math.MinInt, -1, 0, 1, 2, 3, 1 << 32, 1<<32 + 1, math.MaxInt} {
			for tag := range 4 {
				got := len(m.Votes(x, y, hash(tag)))
				want := map[[3]int]int{{1, 0, 1}: 2, {1, 0, 0}: 1, {2, 1, 2}: 1}[[3]int{x, y, tag}]
				if got != want {
					t.Errorf("Votes(%d, %d, b%d): %d", x, y, tag, got)
				}
			}
		}
	}
}

// P1803: behind the end votes and proposals are kept, too, but tell nothing.
func TestKeptBehindTheEnd(t *testing.T) {
	m := at(t, 4, 0, 0)
	m.Propose(proposal(4, 0, -1, 1))
	votes(m, precommit, 0, 1, 0, 1, 3)
	was := m.State()
	says(t, "a precommit", m.Vote(precommit(0, 2, 1)), "")
	says(t, "prevotes", votes(m, prevote, 0, 1, 3, 2, 1, 0), "")
	says(t, "of higher rounds", votes(m, prevote, 9, 1, 3, 2, 1, 0), "")
	says(t, "a proposal", m.Propose(proposal(4, 9, -1, 1)), "")
	says(t, "precommits", votes(m, precommit, 9, 1, 3, 2, 1, 0), "")
	has(t, "precommits", m, 2, 0, 1, 0, 1, 2, 3)
	has(t, "prevotes", m, 1, 0, 1, 0, 1, 2, 3)
	has(t, "of a higher round", m, 2, 9, 1, 0, 1, 2, 3)
	if m.State() != was {
		t.Errorf("changed: %v", m.State())
	}
}

// P1803: however much is kept, of however many rounds and hashes: no call goes through all of it, else this would not end in time.
func TestMuch(t *testing.T) {
	m := at(t, 4, 0, 0)
	for i := range 60000 {
		v := prevote(9+i, 1, 1)
		says(t, "a round", m.Vote(v), "")
		v = prevote(3, 2, 1)
		v.Block = api.Hash{byte(i), byte(i >> 8), 1}
		says(t, "a hash", m.Vote(v), "")
	}
	says(t, "Propose", m.Propose(proposal(4, 0, -1, 1)), "prevote 0 for b1")
	says(t, "one of many hashes", m.Vote(prevote(3, 0, 1)), "timer 3 which 1")
	says(t, "one of many rounds", m.Vote(prevote(30000, 2, 1)), "timer 30000 which 1")
}
