package chain_test

import (
	"fmt"
	"math"
	"math/big"
	"slices"
	"testing"

	"conclave/api"
	"conclave/chain"
)

// Signed by validators of chain 7.

func signedVote(v api.Vote) api.Vote {
	v.Sig = plainSig(seed(v.By&15), plainVoteText(7, v))
	return v
}

func signedProposal(p api.Proposal) api.Proposal {
	p.Sig = plainSig(seed(p.By&15), plainProposalText(7, p))
	return p
}

// Checks tell just that; so do the words.

func checksVote(t *testing.T, what string, g api.Genesis, v api.Vote, want api.Errno) {
	t.Helper()
	is(t, "CheckVote of "+what, int(chain.CheckVote(g, v)), int(want))
	is(t, "the words on "+what, int(plainCheckVote(g, v)), int(want))
}

func checksProposal(t *testing.T, what string, g api.Genesis, p api.Proposal, want api.Errno) {
	t.Helper()
	is(t, "CheckProposal of "+what, int(chain.CheckProposal(g, p)), int(want))
	is(t, "the words on "+what, int(plainCheckProposal(g, p)), int(want))
}

func checksCommit(t *testing.T, what string, g api.Genesis, c api.Commit, want api.Errno) {
	t.Helper()
	is(t, "CheckCommit of "+what, int(chain.CheckCommit(g, c)), int(want))
	is(t, "the words on "+what, int(plainCheckCommit(g, c)), int(want))
}

// wrongWorlds: genesis that are not right, each for another reason.
func wrongWorlds() map[string]api.Genesis {
	twice := world(4)
	twice.Keys[3] = twice.Keys[0]
	many := world(4)
	many.Allocs = allocs(65)
	alike := world(4)
	alike.Allocs = append(allocs(3), allocs(1)...)
	code := world(4)
	code.Allocs = []api.Alloc{{Code: data(24577)}}
	return map[string]api.Genesis{"no keys": {Chain: 7}, "17 keys": world(17), "keys alike": twice, "65 accounts": many, "accounts alike": alike, "too much code": code}
}

// P1504: votes that hold: of both kinds, of each validator, for a block and for none, at the greatest heights and rounds.
func TestCheckVoteHolds(t *testing.T) {
	for n := 1; n <= 16; n += 3 {
		for by := range n {
			v := api.Vote{Kind: 1 + by%2, Height: 5, Round: by, Block: hash(byte(by)), By: by}
			checksVote(t, fmt.Sprint("one of ", n), world(n), signedVote(v), api.OK)
		}
	}
	for _, kind := range []int{1, 2} {
		for _, height := range []uint64{1, 127, 128, math.MaxInt32, 1 << 31, math.MaxInt64, math.MaxUint64} {
			v := signedVote(api.Vote{Kind: kind, Height: height, Block: hash(1), By: 2})
			checksVote(t, fmt.Sprint("one of height ", height), world(4), v, api.OK)
		}
		for _, round := range []int{0, 1, 127, 128, math.MaxInt32 - 1, math.MaxInt32} {
			v := signedVote(api.Vote{Kind: kind, Height: 1, Round: round, By: 3})
			checksVote(t, fmt.Sprint("one of round ", round), world(4), v, api.OK)
		}
	}
	g := world(4)
	g.Allocs = allocs(64)
	checksVote(t, "one with accounts around", g, signedVote(someVote4()), api.OK)
}

// someVote4: of one of four.
func someVote4() api.Vote { return api.Vote{Kind: 2, Height: 9, Round: 3, Block: hash(6), By: 1} }

// P1504: ErrVote: each field at and beyond its limits, signed so.
func TestCheckVoteFields(t *testing.T) {
	for _, n := range append(ints(), 3, 4, 5) {
		want := map[bool]api.Errno{true: api.OK, false: api.ErrVote}
		v := signedVote(change(someVote4(), func(v *api.Vote) { v.Kind = n }))
		checksVote(t, fmt.Sprint("kind ", n), world(4), v, want[n == 1 || n == 2])
		v = signedVote(change(someVote4(), func(v *api.Vote) { v.Round = n }))
		checksVote(t, fmt.Sprint("round ", n), world(4), v, want[n >= 0 && n <= 2147483647])
		v = signedVote(change(someVote4(), func(v *api.Vote) { v.By = n }))
		checksVote(t, fmt.Sprint("by ", n), world(4), v, want[n >= 0 && n < 4])
	}
	checksVote(t, "height 0", world(4), signedVote(change(someVote4(), func(v *api.Vote) { v.Height = 0 })), api.ErrVote)
	checksVote(t, "nothing", world(4), api.Vote{}, api.ErrVote)
}

// P1504: ErrSig: of another key, for another chain, with each field changed, with any byte of it changed.
func TestCheckVoteSig(t *testing.T) {
	v := signedVote(someVote4())
	checksVote(t, "it", world(4), v, api.OK)
	for _, id := range []uint64{0, 6, 8, 1 << 32, 1<<32 + 7, math.MaxUint64} {
		checksVote(t, fmt.Sprint("it, on chain ", id), api.Genesis{Chain: id, Keys: keys(4)}, v, api.ErrSig)
	}
	for what, f := range map[string]func(v *api.Vote){
		"Kind":             func(v *api.Vote) { v.Kind = 1 },
		"Height":           func(v *api.Vote) { v.Height++ },
		"Round":            func(v *api.Vote) { v.Round-- },
		"Block":            func(v *api.Vote) { v.Block[31] ^= 1 },
		"no Block":         func(v *api.Vote) { v.Block = api.Hash{} },
		"By":               func(v *api.Vote) { v.By = 2 },
		"another key's":    func(v *api.Vote) { v.Sig = plainSig(seed(2), plainVoteText(7, *v)) },
		"another text's":   func(v *api.Vote) { v.Sig = plainSig(seed(1), plainVote(*v)) },
		"of another label": func(v *api.Vote) { v.Sig = plainSig(seed(1), plainList(voteParts(*v)[:4]...)) },
		"none":             func(v *api.Vote) { v.Sig = api.Sig{} },
		"halves turned":    func(v *api.Vote) { v.Sig = api.Sig(slices.Concat(v.Sig[32:], v.Sig[:32])) },
	} {
		checksVote(t, "one with another "+what, world(4), change(v, f), api.ErrSig)
	}
	for i := range v.Sig {
		checksVote(t, fmt.Sprint("one with another byte of Sig: ", i), world(4), change(v, func(v *api.Vote) { v.Sig[i] ^= 1 << (i % 8) }), api.ErrSig)
	}
	half := slices.Clone(v.Sig[32:])
	slices.Reverse(half)
	order, _ := new(big.Int).SetString("7237005577332262213973186563042994240857116359379907606001950938285454250989", 10)
	more := new(big.Int).Add(new(big.Int).SetBytes(half), order).FillBytes(make([]byte, 32))
	slices.Reverse(more)
	checksVote(t, "another number that is the same modulo L", world(4), change(v, func(v *api.Vote) { copy(v.Sig[32:], more) }), api.ErrSig)
	turned := world(4)
	turned.Keys[1], turned.Keys[2] = turned.Keys[2], turned.Keys[1]
	checksVote(t, "it, where keys have changed places", turned, v, api.ErrSig)
	checksVote(t, "it, moved with its key", turned, change(v, func(v *api.Vote) { v.By = 2 }), api.OK)
	none := world(4)
	none.Keys[1] = api.Key{31: 0x7f}
	is(t, "CheckVote by a key that is no point", int(chain.CheckVote(none, v)), int(api.ErrSig))
}

// P1504: which comes first, wherever faults come together: the genesis, the vote, its signature.
func TestCheckVoteOrder(t *testing.T) {
	for what, wrong := range wrongWorlds() {
		for faults := range 64 {
			g, v := world(4), someVote4()
			want := api.OK
			if faults&1 != 0 {
				want = api.ErrSig
			}
			if faults&2 != 0 {
				v.Kind, want = 3, api.ErrVote
			}
			if faults&4 != 0 {
				v.Height, want = 0, api.ErrVote
			}
			if faults&8 != 0 {
				v.Round, want = 1<<31, api.ErrVote
			}
			if faults&16 != 0 {
				v.By, want = 4, api.ErrVote
			}
			v = signedVote(v)
			if faults&1 != 0 {
				v.Sig[0]++
			}
			if faults&32 != 0 {
				g, want = wrong, api.ErrArg
			}
			if faults < 32 && what != "no keys" {
				continue // the same for all of them
			}
			checksVote(t, fmt.Sprintf("faults %06b, %s", faults, what), g, v, want)
		}
	}
	checksVote(t, "nothing at all", api.Genesis{}, api.Vote{}, api.ErrArg)
}

// right4: a proposal of height 9 and round 3 of four: by number 0.
func right4() api.Proposal {
	return api.Proposal{Height: 9, Round: 3, Valid: 1, Block: api.Block{Height: 9, Prev: hash(1), State: hash(2), Proposer: 0, Round: 3, Txs: [][]byte{{1, 2}, {3}}}, By: 0}
}

// P1504: proposals that hold: of each height and round by their proposer, with all rounds that may be Valid; the block's own Proposer and Round are not asked.
func TestCheckProposalHolds(t *testing.T) {
	for _, n := range []int{1, 2, 4, 16} {
		for height := uint64(1); height < 4; height++ {
			for round := range 4 {
				p := api.Proposal{Height: height, Round: round, Valid: -1, Block: api.Block{Height: height}, By: plainProposer(height, round, n)}
				checksProposal(t, fmt.Sprint("one of ", n, height, round), world(n), signedProposal(p), api.OK)
			}
		}
	}
	for _, n := range []int{3, 4, 16} {
		for _, height := range []uint64{1 << 31, 1 << 63, math.MaxUint64} {
			for _, round := range []int{0, math.MaxInt32} {
				p := api.Proposal{Height: height, Round: round, Valid: round - 1, Block: api.Block{Height: height}, By: plainProposer(height, round, n)}
				checksProposal(t, fmt.Sprint("one of ", n, height, round), world(n), signedProposal(p), api.OK)
			}
		}
	}
	for what, f := range map[string]func(p *api.Proposal){
		"another Proposer in its block": func(p *api.Proposal) { p.Block.Proposer = 77 },
		"another Round in its block":    func(p *api.Proposal) { p.Block.Round = 77 },
		"no Txs":                        func(p *api.Proposal) { p.Block.Txs = nil },
		"the greatest block":            func(p *api.Proposal) { p.Block = blockOfSize(24576, 3); p.Block.Height = 9 },
		"64 Txs":                        func(p *api.Proposal) { p.Block.Txs = make([][]byte, 64) },
		"no hashes":                     func(p *api.Proposal) { p.Block.Prev, p.Block.State = api.Hash{}, api.Hash{} },
	} {
		checksProposal(t, "one with "+what, world(4), signedProposal(change(right4(), f)), api.OK)
	}
}

// P1504: ErrVote: each field at and beyond its limits, signed so.
func TestCheckProposalFields(t *testing.T) {
	want := map[bool]api.Errno{true: api.OK, false: api.ErrVote}
	for valid := -5; valid < 8; valid++ {
		p := signedProposal(change(right4(), func(p *api.Proposal) { p.Valid = valid }))
		checksProposal(t, fmt.Sprint("Valid ", valid), world(4), p, want[valid >= -1 && valid < 3])
		p = signedProposal(change(right4(), func(p *api.Proposal) { p.Round, p.By, p.Valid = 0, 1, valid }))
		checksProposal(t, fmt.Sprint("round 0, Valid ", valid), world(4), p, want[valid == -1])
		p = signedProposal(change(right4(), func(p *api.Proposal) { p.Round, p.By, p.Valid = 1, 2, valid }))
		checksProposal(t, fmt.Sprint("round 1, Valid ", valid), world(4), p, want[valid == -1 || valid == 0])
		p = signedProposal(change(right4(), func(p *api.Proposal) { p.By = valid }))
		checksProposal(t, fmt.Sprint("by ", valid), world(4), p, want[valid == 0])
	}
	for _, n := range ints() {
		p := signedProposal(change(right4(), func(p *api.Proposal) { p.Valid = n }))
		checksProposal(t, fmt.Sprint("Valid ", n), world(4), p, want[n >= -1 && n < 3])
		p = signedProposal(change(right4(), func(p *api.Proposal) { p.By = n }))
		checksProposal(t, fmt.Sprint("by ", n), world(4), p, want[n == 0])
		by := plainProposer(9, max(n, 0), 4)
		p = signedProposal(change(right4(), func(p *api.Proposal) { p.Round, p.Valid, p.By = n, -1, by }))
		checksProposal(t, fmt.Sprint("round ", n), world(4), p, want[n >= 0 && n <= 2147483647])
	}
	for what, f := range map[string]func(p *api.Proposal){
		"Height 0":                      func(p *api.Proposal) { p.Height, p.Block.Height, p.By = 0, 0, 3 },
		"another Height in its block":   func(p *api.Proposal) { p.Block.Height = 10 },
		"Height 0 in its block":         func(p *api.Proposal) { p.Block.Height = 0 },
		"another Height":                func(p *api.Proposal) { p.Height = 13 },
		"another Height, by its own":    func(p *api.Proposal) { p.Height, p.By = 10, 1 },
		"the Proposer of its block":     func(p *api.Proposal) { p.By, p.Block.Proposer = 2, 2 },
		"who proposes a round before":   func(p *api.Proposal) { p.By = 3 },
		"who proposes a round later":    func(p *api.Proposal) { p.By = 1 },
		"a Valid that is its round":     func(p *api.Proposal) { p.Valid = 3 },
		"a Valid that is beyond all":    func(p *api.Proposal) { p.Valid = math.MaxInt64 },
		"a Height with 2^32 added":      func(p *api.Proposal) { p.Height += 1 << 32 },
		"a block's with 2^32 added":     func(p *api.Proposal) { p.Block.Height += 1 << 32 },
		"the least number as Valid":     func(p *api.Proposal) { p.Valid = math.MinInt64 },
		"the least number as Round":     func(p *api.Proposal) { p.Round, p.Valid, p.By = math.MinInt64, -1, 1 },
		"a Round with 2^32 added":       func(p *api.Proposal) { p.Round += 1 << 32 },
		"a number of nobody as By":      func(p *api.Proposal) { p.By = 4 },
		"a By that is the same, of 4":   func(p *api.Proposal) { p.By = 16 },
		"a By below 0 that is the same": func(p *api.Proposal) { p.By = -4 },
	} {
		checksProposal(t, "one with "+what, world(4), signedProposal(change(right4(), f)), api.ErrVote)
	}
	checksProposal(t, "nothing", world(4), api.Proposal{}, api.ErrVote)
}

// P1504: ErrBlock: a block that is not right, for each reason.
func TestCheckProposalBlock(t *testing.T) {
	for what, f := range map[string]func(b *api.Block){
		"Proposer -1":     func(b *api.Block) { b.Proposer = -1 },
		"Proposer 2^31":   func(b *api.Block) { b.Proposer = 1 << 31 },
		"Round -1":        func(b *api.Block) { b.Round = -1 },
		"Round 2^31":      func(b *api.Block) { b.Round = 1 << 31 },
		"65 Txs":          func(b *api.Block) { b.Txs = make([][]byte, 65) },
		"24577 bytes":     func(b *api.Block) { *b = blockOfSize(24577, 2); b.Height = 9 },
		"65537 bytes":     func(b *api.Block) { *b = blockOfSize(65537, 2); b.Height = 9 },
		"far too much":    func(b *api.Block) { b.Txs = [][]byte{make([]byte, 1<<20)} },
		"all of that not": func(b *api.Block) { b.Proposer, b.Round, b.Txs = -1, -1, make([][]byte, 65) },
	} {
		p := signedProposal(change(right4(), func(p *api.Proposal) { f(&p.Block) }))
		checksProposal(t, "one with "+what, world(4), p, api.ErrBlock)
	}
}

// P1504: ErrSig: of another key, for another chain, with each field changed, with any byte of it changed.
func TestCheckProposalSig(t *testing.T) {
	p := signedProposal(right4())
	checksProposal(t, "it", world(4), p, api.OK)
	for _, id := range []uint64{0, 6, 8, 1 << 32, math.MaxUint64} {
		checksProposal(t, fmt.Sprint("it, on chain ", id), api.Genesis{Chain: id, Keys: keys(4)}, p, api.ErrSig)
	}
	for what, f := range map[string]func(p *api.Proposal){
		"Height":         func(p *api.Proposal) { p.Height, p.Block.Height = 13, 13 },
		"Round":          func(p *api.Proposal) { p.Round = 7 },
		"Valid":          func(p *api.Proposal) { p.Valid = 2 },
		"no Valid":       func(p *api.Proposal) { p.Valid = -1 },
		"first Valid":    func(p *api.Proposal) { p.Valid = 0 },
		"Height and By":  func(p *api.Proposal) { p.Height, p.Block.Height, p.By = 10, 10, 1 },
		"Prev":           func(p *api.Proposal) { p.Block.Prev[0]++ },
		"State":          func(p *api.Proposal) { p.Block.State[31]++ },
		"block's Round":  func(p *api.Proposal) { p.Block.Round++ },
		"block's By":     func(p *api.Proposal) { p.Block.Proposer++ },
		"less Txs":       func(p *api.Proposal) { p.Block.Txs = p.Block.Txs[:1] },
		"more Txs":       func(p *api.Proposal) { p.Block.Txs = append(slices.Clip(p.Block.Txs), nil) },
		"other Txs":      func(p *api.Proposal) { p.Block.Txs = [][]byte{{1, 2}, {4}} },
		"Txs turned":     func(p *api.Proposal) { p.Block.Txs = [][]byte{{3}, {1, 2}} },
		"Txs joined":     func(p *api.Proposal) { p.Block.Txs = [][]byte{{1, 2, 3}} },
		"another key's":  func(p *api.Proposal) { p.Sig = plainSig(seed(1), plainProposalText(7, *p)) },
		"another text's": func(p *api.Proposal) { p.Sig = plainSig(seed(0), plainProposal(*p)) },
		"a vote's": func(p *api.Proposal) {
			p.Sig = plainSig(seed(0), plainVoteText(7, api.Vote{Kind: 2, Height: 9, Round: 3, Block: plainHash(p.Block)}))
		},
		"none": func(p *api.Proposal) { p.Sig = api.Sig{} },
		"of another hash": func(p *api.Proposal) {
			p.Sig = plainSig(seed(0), plainProposalText(7, api.Proposal{Height: 9, Round: 3, Valid: 1}))
		},
	} {
		checksProposal(t, "one with another "+what, world(4), change(p, f), api.ErrSig)
	}
	for i := range p.Sig {
		checksProposal(t, fmt.Sprint("one with another byte of Sig: ", i), world(4), change(p, func(p *api.Proposal) { p.Sig[i] ^= 1 << (i % 8) }), api.ErrSig)
	}
}

// P1504: which comes first, wherever faults come together: the genesis, the proposal, its block, its signature.
func TestCheckProposalOrder(t *testing.T) {
	steps := []func(p *api.Proposal){
		func(p *api.Proposal) { p.Height, p.Block.Height = 0, 0 },
		func(p *api.Proposal) { p.Round = -1 },
		func(p *api.Proposal) { p.By = 4 },
		func(p *api.Proposal) { p.Valid = -2 },
		func(p *api.Proposal) { p.By = 2 },
		func(p *api.Proposal) { p.Block.Height = 77 },
	}
	for what, wrong := range wrongWorlds() {
		for faults := range 1 << 9 {
			if faults&256 == 0 && what != "no keys" || faults&256 != 0 && faults%7 != 0 {
				continue // the same for all of them; of those that are ErrArg some will do
			}
			g, p := world(4), right4()
			want := api.OK
			if faults&1 != 0 {
				want = api.ErrSig
			}
			if faults&2 != 0 {
				p.Block.Round, want = -1, api.ErrBlock
			}
			for i, f := range steps {
				if faults&(4<<i) != 0 {
					f(&p)
					want = api.ErrVote
				}
			}
			p = signedProposal(p)
			if faults&1 != 0 {
				p.Sig[40]++
			}
			if faults&256 != 0 {
				g, want = wrong, api.ErrArg
			}
			checksProposal(t, fmt.Sprintf("faults %09b, %s", faults, what), g, p, want)
		}
	}
	checksProposal(t, "nothing at all", api.Genesis{}, api.Proposal{}, api.ErrArg)
}
