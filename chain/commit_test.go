package chain_test

import (
	"fmt"
	"math"
	"math/rand/v2"
	"slices"
	"testing"

	"conclave/api"
	"conclave/chain"
)

// commitBy: of height 9, round 3, with votes of these validators, in their order.
func commitBy(by ...int) api.Commit {
	c := api.Commit{Height: 9, Round: 3, Block: hash(6)}
	for _, n := range by {
		c.Votes = append(c.Votes, signedVote(api.Vote{Kind: 2, Height: 9, Round: 3, Block: hash(6), By: n}))
	}
	return c
}

// first: the numbers below n.
func first(n int) []int {
	var out []int
	for i := range n {
		out = append(out, i)
	}
	return out
}

// P1504: Quorum votes are enough, one less is not, and more may be, of any number of validators.
func TestCheckCommitEnough(t *testing.T) {
	for n := 1; n <= 16; n++ {
		for many := range n + 1 {
			want := api.ErrCommit
			if many >= plainQuorum(n) {
				want = api.OK
			}
			checksCommit(t, fmt.Sprint("the first ", many, " of ", n), world(n), commitBy(first(n)[:many]...), want)
			checksCommit(t, fmt.Sprint("the last ", many, " of ", n), world(n), commitBy(first(n)[n-many:]...), want)
		}
	}
}

// P1504: all sets of four validators, and of seven.
func TestCheckCommitSets(t *testing.T) {
	for n, enough := range map[int]int{4: 3, 7: 5} {
		for set := range 1 << n {
			var by []int
			for i := range n {
				if set>>i&1 == 1 {
					by = append(by, i)
				}
			}
			want := api.ErrCommit
			if len(by) >= enough {
				want = api.OK
			}
			checksCommit(t, fmt.Sprint(by, " of ", n), world(n), commitBy(by...), want)
		}
	}
}

// P1504: votes twice, out of order, of nobody.
func TestCheckCommitRises(t *testing.T) {
	for _, by := range [][]int{
		{0, 0, 0}, {0, 1, 1}, {0, 0, 1, 2}, {0, 1, 1, 2}, {0, 1, 2, 2}, {0, 1, 2, 3, 3}, {0, 0, 1, 1, 2, 2, 3, 3}, {0, 1, 2, 0, 1, 2},
		{2, 1, 0}, {1, 0, 2}, {0, 2, 1}, {3, 0, 1, 2}, {0, 1, 3, 2}, {1, 0, 2, 3}, {3, 2, 1, 0},
		{0, 1, 4}, {0, 1, 2, 4}, {0, 1, 2, 3, 4}, {-1, 0, 1, 2}, {-1, 0, 1}, {-2, -1, 0}, {math.MinInt64, 0, 1, 2}, {0, 1, 2, math.MaxInt64}, {4, 5, 6}, {0, 1, 16}, {0, 1, 1 << 32},
	} {
		checksCommit(t, fmt.Sprint("votes of ", by), world(4), commitBy(by...), api.ErrCommit)
	}
	for _, by := range [][]int{{0, 1, 2}, {0, 1, 3}, {0, 2, 3}, {1, 2, 3}, {0, 1, 2, 3}} {
		checksCommit(t, fmt.Sprint("votes of ", by), world(4), commitBy(by...), api.OK)
	}
	for i := range 16 {
		for j := range i {
			by := first(16)
			by[i], by[j] = by[j], by[i]
			is(t, fmt.Sprint("CheckCommit of 16, two of which have changed places: ", i, j), int(chain.CheckCommit(world(16), commitBy(by...))), int(api.ErrCommit))
		}
	}
}

// P1504: one vote of another kind, height, round or block, signed so, or one that does not hold, among enough that do, wherever it stands.
func TestCheckCommitOneWrong(t *testing.T) {
	rows := map[string]func(v *api.Vote){
		"of the other kind":        func(v *api.Vote) { v.Kind = 1; *v = signedVote(*v) },
		"of no kind":               func(v *api.Vote) { v.Kind = 3; *v = signedVote(*v) },
		"of another height":        func(v *api.Vote) { v.Height++; *v = signedVote(*v) },
		"of height 0":              func(v *api.Vote) { v.Height = 0; *v = signedVote(*v) },
		"of another round":         func(v *api.Vote) { v.Round++; *v = signedVote(*v) },
		"of a round below 0":       func(v *api.Vote) { v.Round = -1; *v = signedVote(*v) },
		"of another block":         func(v *api.Vote) { v.Block[31]++; *v = signedVote(*v) },
		"for no block":             func(v *api.Vote) { v.Block = api.Hash{}; *v = signedVote(*v) },
		"signed by another":        func(v *api.Vote) { v.Sig = plainSig(seed(15), plainVoteText(7, *v)) },
		"signed for another chain": func(v *api.Vote) { v.Sig = plainSig(seed(v.By), plainVoteText(8, *v)) },
		"signed for another round": func(v *api.Vote) {
			v.Sig = signedVote(api.Vote{Kind: 2, Height: 9, Round: 2, Block: v.Block, By: v.By}).Sig
		},
		"signed as a prevote": func(v *api.Vote) {
			v.Sig = signedVote(api.Vote{Kind: 1, Height: 9, Round: 3, Block: v.Block, By: v.By}).Sig
		},
		"signed for no block":       func(v *api.Vote) { v.Sig = signedVote(api.Vote{Kind: 2, Height: 9, Round: 3, By: v.By}).Sig },
		"with another byte of Sig":  func(v *api.Vote) { v.Sig[17] ^= 4 },
		"not signed":                func(v *api.Vote) { v.Sig = api.Sig{} },
		"of another kind, not said": func(v *api.Vote) { v.Kind = 1 },
		"of another block, not so":  func(v *api.Vote) { v.Block[0]++ },
	}
	for what, f := range rows {
		for _, many := range []int{3, 4} {
			for at := range many {
				c := commitBy(first(many)...)
				f(&c.Votes[at])
				checksCommit(t, fmt.Sprint("one with a vote ", what, ": ", at, " of ", many), world(4), c, api.ErrCommit)
			}
		}
		c := commitBy(0)
		f(&c.Votes[0])
		checksCommit(t, "one of one alone, "+what, world(1), c, api.ErrCommit)
	}
}

// P1504: all votes alike otherwise than the commit says.
func TestCheckCommitOther(t *testing.T) {
	for what, f := range map[string]func(c *api.Commit){
		"Height":    func(c *api.Commit) { c.Height = 10 },
		"Height 0":  func(c *api.Commit) { c.Height = 0 },
		"Round":     func(c *api.Commit) { c.Round = 4 },
		"Round -1":  func(c *api.Commit) { c.Round = -1 },
		"Block":     func(c *api.Commit) { c.Block[0]++ },
		"no Block":  func(c *api.Commit) { c.Block = api.Hash{} },
		"no votes":  func(c *api.Commit) { c.Votes = nil },
		"no vote":   func(c *api.Commit) { c.Votes = []api.Vote{} },
		"one less":  func(c *api.Commit) { c.Votes = c.Votes[:2] },
		"zero ones": func(c *api.Commit) { c.Votes = make([]api.Vote, 3) },
	} {
		checksCommit(t, "one with another "+what, world(4), change(commitBy(0, 1, 2), f), api.ErrCommit)
	}
	checksCommit(t, "nothing", world(4), api.Commit{}, api.ErrCommit)
	is(t, "CheckCommit on another chain", int(chain.CheckCommit(api.Genesis{Chain: 8, Keys: keys(4)}, commitBy(0, 1, 2))), int(api.ErrCommit))
	is(t, "CheckCommit of far too many votes", int(chain.CheckCommit(world(16), api.Commit{Block: hash(1), Votes: make([]api.Vote, 1<<18)})), int(api.ErrCommit))
}

// sameVotes: a commit in which all votes are alike but for By, signed so.
func sameVotes(v api.Vote, n int) api.Commit {
	c := api.Commit{Height: v.Height, Round: v.Round, Block: v.Block}
	for i := range n {
		v.By = i
		c.Votes = append(c.Votes, signedVote(v))
	}
	return c
}

// P1504: what all votes say and the commit with them: for no block, of the other kind, of height 0, of rounds that can't be it does not hold.
func TestCheckCommitAll(t *testing.T) {
	v := api.Vote{Kind: 2, Height: 9, Round: 3, Block: hash(6)}
	checksCommit(t, "it", world(4), sameVotes(v, 4), api.OK)
	for what, f := range map[string]func(v *api.Vote){
		"for no block":       func(v *api.Vote) { v.Block = api.Hash{} },
		"of the other kind":  func(v *api.Vote) { v.Kind = 1 },
		"of no kind":         func(v *api.Vote) { v.Kind = 0 },
		"of height 0":        func(v *api.Vote) { v.Height = 0 },
		"of a round below 0": func(v *api.Vote) { v.Round = -1 },
		"of round 2^31":      func(v *api.Vote) { v.Round = 1 << 31 },
	} {
		checksCommit(t, "votes "+what, world(4), sameVotes(change(v, f), 4), api.ErrCommit)
	}
	for what, f := range map[string]func(v *api.Vote){
		"of round 0":              func(v *api.Vote) { v.Round = 0 },
		"of round 2^31 - 1":       func(v *api.Vote) { v.Round = math.MaxInt32 },
		"of height 1":             func(v *api.Vote) { v.Height = 1 },
		"of height 2^64 - 1":      func(v *api.Vote) { v.Height = math.MaxUint64 },
		"for a hash of one bit":   func(v *api.Vote) { v.Block = api.Hash{31: 1} },
		"for a hash of a 1 ahead": func(v *api.Vote) { v.Block = api.Hash{1} },
	} {
		checksCommit(t, "votes "+what, world(4), sameVotes(change(v, f), 3), api.OK)
	}
}

// P1504: a genesis that is not right comes first, whatever the commit.
func TestCheckCommitOrder(t *testing.T) {
	for what, g := range wrongWorlds() {
		for _, c := range []api.Commit{{}, commitBy(0, 1, 2), commitBy(0, 1), commitBy(2, 1, 0), commitBy(first(16)...), commitBy()} {
			checksCommit(t, what, g, c, api.ErrArg)
		}
	}
}

// P1505: where two commits of one height and round hold for two blocks, Some validators have voted for both.
func TestCommitsMeet(t *testing.T) {
	for _, n := range []int{1, 3, 4, 6} {
		a, b := hash(1), hash(2)
		byOf := func(set int, h api.Hash) api.Commit {
			c := api.Commit{Height: 9, Round: 3, Block: h}
			for i := range n {
				if set>>i&1 == 1 {
					c.Votes = append(c.Votes, signedVote(api.Vote{Kind: 2, Height: 9, Round: 3, Block: h, By: i}))
				}
			}
			return c
		}
		var one, other []int
		for set := range 1 << n {
			if chain.CheckCommit(world(n), byOf(set, a)) == api.OK {
				one = append(one, set)
			}
			if chain.CheckCommit(world(n), byOf(set, b)) == api.OK {
				other = append(other, set)
			}
		}
		if len(one) == 0 || !slices.Equal(one, other) {
			t.Errorf("%d: commits of %v and of %v", n, one, other)
		}
		for _, x := range one {
			for _, y := range other {
				both := 0
				for i := range n {
					both += x & y >> i & 1
				}
				if both < chain.Some(n) {
					t.Errorf("%d: %b and %b hold", n, x, y)
				}
			}
		}
	}
}

// odd: now and then true.
func odd(r *rand.Rand, of int) bool { return r.IntN(of) == 0 }

// drawnVote: of height 9, round 3, with something else now and then.
func drawnVote(r *rand.Rand, n, by int) api.Vote {
	v := api.Vote{Kind: 2, Height: 9, Round: 3, Block: hash(6), By: by}
	spoilt := func() {
		switch r.IntN(8) {
		case 0:
			v.Kind = r.IntN(5) - 1
		case 1:
			v.Height = uint64(r.IntN(3)) * 9
		case 2:
			v.Round = ints()[r.IntN(len(ints()))]
		case 3:
			v.Block = hash(byte(r.IntN(3) + 5))
		case 4:
			v.By = r.IntN(n+2) - 1
		case 5:
			v.Sig[r.IntN(64)] ^= 1 << r.IntN(8)
		case 6:
			v.Sig = plainSig(seed(r.IntN(n)), plainVoteText(7, v))
		case 7:
			v.Block = api.Hash{}
		}
	}
	if odd(r, 12) {
		spoilt()
	}
	v = signedVote(v)
	if odd(r, 12) {
		spoilt()
	}
	return v
}

// P1504: drawn votes and commits, against the words said over again.
func TestCheckDrawn(t *testing.T) {
	r := rand.New(rand.NewPCG(15, 3))
	votes, commits := map[api.Errno]int{}, map[api.Errno]int{}
	for range 400 {
		n := 1 + r.IntN(7)
		g := world(n)
		if odd(r, 15) {
			g.Keys = append(g.Keys, g.Keys[r.IntN(n)])
		}
		c := api.Commit{Height: 9, Round: 3, Block: hash(6)}
		for by := range n {
			if odd(r, 6) {
				continue
			}
			v := drawnVote(r, n, by)
			votes[plainCheckVote(g, v)]++
			checksVote(t, seenVote(v), g, v, plainCheckVote(g, v))
			c.Votes = append(c.Votes, v)
		}
		if len(c.Votes) > 1 && odd(r, 12) {
			i, j := r.IntN(len(c.Votes)), r.IntN(len(c.Votes))
			c.Votes[i], c.Votes[j] = c.Votes[j], c.Votes[i]
		}
		commits[plainCheckCommit(g, c)]++
		checksCommit(t, seenCommit(c), g, c, plainCheckCommit(g, c))
	}
	enough(t, votes, api.OK, api.ErrVote, api.ErrSig, api.ErrArg)
	enough(t, commits, api.OK, api.ErrCommit)
}

// P1504: drawn proposals, against the words said over again.
func TestCheckProposalDrawn(t *testing.T) {
	r := rand.New(rand.NewPCG(15, 4))
	met := map[api.Errno]int{}
	for range 1500 {
		n := 1 + r.IntN(7)
		height, round := 1+r.Uint64N(5), r.IntN(6)
		p := api.Proposal{Height: height, Round: round, Valid: r.IntN(round+1) - 1, Block: api.Block{Height: height, Txs: [][]byte{{1}}}, By: plainProposer(height, round, n)}
		spoilt := func() {
			switch r.IntN(9) {
			case 0:
				p.Height = r.Uint64N(4)
			case 1:
				p.Round = ints()[r.IntN(len(ints()))]
			case 2:
				p.Valid = r.IntN(9) - 3
			case 3:
				p.By = r.IntN(n+2) - 1
			case 4:
				p.Block.Height = r.Uint64N(4)
			case 5:
				p.Block.Round = ints()[r.IntN(len(ints()))]
			case 6:
				p.Block.Proposer = ints()[r.IntN(len(ints()))]
			case 7:
				p.Sig[r.IntN(64)] ^= 1 << r.IntN(8)
			case 8:
				p.Block.Txs = make([][]byte, 60+r.IntN(10))
			}
		}
		if odd(r, 2) {
			spoilt()
		}
		p = signedProposal(p)
		if odd(r, 3) {
			spoilt()
		}
		g := world(n)
		if odd(r, 30) {
			g.Keys = append(g.Keys, g.Keys[r.IntN(n)])
		}
		met[plainCheckProposal(g, p)]++
		checksProposal(t, seenProposal(p), g, p, plainCheckProposal(g, p))
	}
	enough(t, met, api.OK, api.ErrVote, api.ErrBlock, api.ErrSig, api.ErrArg)
}
