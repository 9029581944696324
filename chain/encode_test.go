package chain_test

import (
	"bytes"
	"fmt"
	"math"
	"slices"
	"strings"
	"testing"

	"conclave/api"
	"conclave/chain"
)

// blocks: with one field after the other at its edges and beyond them.
func blocks() []api.Block {
	out := []api.Block{{}, {Height: 1}, someBlock()}
	add := func(f func(b *api.Block)) { out = append(out, change(someBlock(), f)) }
	for _, n := range heights() {
		add(func(b *api.Block) { b.Height = n })
	}
	for _, n := range ints() {
		add(func(b *api.Block) { b.Proposer = n })
		add(func(b *api.Block) { b.Round = n })
		add(func(b *api.Block) { b.Proposer, b.Round = n, n })
	}
	add(func(b *api.Block) { b.Prev = api.Hash{} })
	add(func(b *api.Block) { b.State = api.Hash{} })
	add(func(b *api.Block) { b.Prev, b.State = b.State, b.Prev })
	add(func(b *api.Block) { b.Txs = nil })
	add(func(b *api.Block) { b.Txs = [][]byte{} })
	for _, n := range []int{1, 2, 63, 64, 65, 66, 1000} {
		add(func(b *api.Block) { b.Txs = make([][]byte, n) })
		add(func(b *api.Block) { b.Txs = slices.Repeat([][]byte{{0x80}}, n) })
	}
	for _, n := range []int{0, 1, 2, 54, 55, 56, 57, 255, 256, 257, 8192, 20000, 24000} {
		add(func(b *api.Block) { b.Txs = [][]byte{data(n)} })
		add(func(b *api.Block) { b.Txs = [][]byte{data(n / 2), {}, data(n / 3)} })
	}
	for c := range 256 {
		add(func(b *api.Block) { b.Txs = [][]byte{{byte(c)}} })
	}
	for _, size := range []int{24574, 24575, 24576, 24577, 24578, 30000, 65535, 65536, 65537, 70000} {
		out = append(out, blockOfSize(size, 1), blockOfSize(size, 2), blockOfSize(size, 64))
	}
	return out
}

// blockOfSize: a block whose encoding has so many bytes, in so many Txs.
func blockOfSize(size, txs int) api.Block {
	b := api.Block{Height: 1, Prev: hash(1), State: hash(2), Txs: make([][]byte, txs)}
	for i := range txs - 1 {
		b.Txs[i] = data(size / txs * 9 / 10)
	}
	for n := size; n > 0; n -= len(plainBlock(b)) - size {
		b.Txs[txs-1] = data(n)
		if len(plainBlock(b)) == size {
			return b
		}
	}
	panic(fmt.Sprint("no block of ", size, " bytes"))
}

// votes: with one field after the other at its edges and beyond them.
func votes() []api.Vote {
	out := []api.Vote{{}, someVote()}
	add := func(f func(v *api.Vote)) { out = append(out, change(someVote(), f)) }
	for _, n := range heights() {
		add(func(v *api.Vote) { v.Height = n })
	}
	for _, n := range ints() {
		add(func(v *api.Vote) { v.Kind = n })
		add(func(v *api.Vote) { v.Round = n })
		add(func(v *api.Vote) { v.By = n })
		add(func(v *api.Vote) { v.Kind, v.Round, v.By = n, n, n })
	}
	add(func(v *api.Vote) { v.Block = api.Hash{} })
	add(func(v *api.Vote) { v.Sig = api.Sig{} })
	return out
}

// proposals: with one field after the other at its edges and beyond them.
func proposals() []api.Proposal {
	out := []api.Proposal{{}, {Block: api.Block{Height: 1}}, someProposal()}
	add := func(f func(p *api.Proposal)) { out = append(out, change(someProposal(), f)) }
	for _, n := range heights() {
		add(func(p *api.Proposal) { p.Height = n })
	}
	for _, n := range ints() {
		add(func(p *api.Proposal) { p.Round = n })
		add(func(p *api.Proposal) { p.Valid = n })
		add(func(p *api.Proposal) { p.By = n })
		add(func(p *api.Proposal) { p.Round, p.Valid, p.By = n, n, n })
	}
	for _, b := range blocks() {
		add(func(p *api.Proposal) { p.Block = b })
	}
	add(func(p *api.Proposal) { p.Sig = api.Sig{} })
	return out
}

// commits: with one field after the other at its edges and beyond them, in their votes too.
func commits() []api.Commit {
	out := []api.Commit{{}, {Votes: []api.Vote{}}, {Votes: make([]api.Vote, 1)}, someCommit()}
	add := func(f func(c *api.Commit)) { out = append(out, change(someCommit(), f)) }
	for _, n := range heights() {
		add(func(c *api.Commit) { c.Height = n })
	}
	for _, n := range ints() {
		add(func(c *api.Commit) { c.Round = n })
	}
	add(func(c *api.Commit) { c.Block = api.Hash{} })
	for i := range 3 {
		for _, v := range votes() {
			add(func(c *api.Commit) { c.Votes[i] = v })
		}
	}
	for _, n := range []int{1, 2, 16, 17, 100, 600} {
		add(func(c *api.Commit) { c.Votes = slices.Repeat([]api.Vote{someVote()}, n) })
	}
	return out
}

// told: what an Encode should tell.
func told(b []byte, err api.Errno) string {
	if err != api.OK {
		b = nil
	}
	return fmt.Sprintf("%d %x", int(err), b)
}

func encodedBlock(b api.Block) string {
	enc, err := chain.EncodeBlock(b)
	return fmt.Sprintf("%d %x", int(err), enc)
}

func encodedVote(v api.Vote) string {
	enc, err := chain.EncodeVote(v)
	return fmt.Sprintf("%d %x", int(err), enc)
}

func encodedProposal(p api.Proposal) string {
	enc, err := chain.EncodeProposal(p)
	return fmt.Sprintf("%d %x", int(err), enc)
}

func encodedCommit(c api.Commit) string {
	enc, err := chain.EncodeCommit(c)
	return fmt.Sprintf("%d %x", int(err), enc)
}

// P1502: encodings written out.
func TestEncodeByHand(t *testing.T) {
	h, s := strings.Repeat("33", 32), strings.Repeat("22", 64)
	b := api.Block{Height: 128, Prev: api.Hash(unhex(h)), Proposer: 3, Round: 300, Txs: [][]byte{[]byte("dog"), nil, {5}}}
	block := "f84f 8180 a0" + h + " a0" + strings.Repeat("00", 32) + " 03 82012c c6 83646f67 80 05"
	v := api.Vote{Kind: 2, Height: math.MaxUint64, Round: 0, Block: b.Prev, By: math.MaxInt32, Sig: api.Sig(unhex(s))}
	vote := "f873 02 88ffffffffffffffff 80 a0" + h + " 847fffffff b840" + s
	p := api.Proposal{Height: 1, Round: 127, Valid: math.MaxInt32, Block: b, By: 0, Sig: v.Sig}
	proposal := "f89b 01 7f 8480000000 " + block + " 80 b840" + s
	c := api.Commit{Height: 5, Round: 6, Block: b.Prev, Votes: []api.Vote{v, v}}
	commit := "f9010f 05 06 a0" + h + " f8ea " + vote + vote
	plain := func(s string) string { return "0 " + strings.ReplaceAll(s, " ", "") }
	is(t, "a block", encodedBlock(b), plain(block))
	is(t, "a vote", encodedVote(v), plain(vote))
	is(t, "a proposal", encodedProposal(p), plain(proposal))
	is(t, "a commit", encodedCommit(c), plain(commit))
	is(t, "a proposal without a valid round", encodedProposal(change(p, func(p *api.Proposal) { p.Valid = -1 })), plain("f897 01 7f 80 "+block+" 80 b840"+s))
	is(t, "a proposal with valid round 0", encodedProposal(change(p, func(p *api.Proposal) { p.Valid = 0 })), plain("f897 01 7f 01 "+block+" 80 b840"+s))
	is(t, "a commit without votes", encodedCommit(api.Commit{}), plain("e4 80 80 a0"+strings.Repeat("00", 32)+" c0"))
	is(t, "a block without Txs", encodedBlock(api.Block{Height: 1}), plain("f846 01 a0"+strings.Repeat("00", 32)+" a0"+strings.Repeat("00", 32)+" 80 80 c0"))
	for _, row := range []struct{ enc, want, got string }{
		{block, seenBlock(b), decodedBlock(unhex(block))},
		{vote, seenVote(v), decodedVote(unhex(vote))},
		{proposal, seenProposal(p), decodedProposal(unhex(proposal))},
		{commit, seenCommit(c), decodedCommit(unhex(commit))},
	} {
		is(t, "Decode of "+row.enc, row.got, "0 "+row.want)
	}
}

// P1502, P1505: blocks with each field at its edges: Encode, or its error; and Decode of what can be written.
func TestBlocksThereAndBack(t *testing.T) {
	met := map[api.Errno]int{}
	for _, b := range blocks() {
		err := blockError(b)
		met[err]++
		is(t, "EncodeBlock of "+seenBlock(b), encodedBlock(b), told(plainBlock(b), err))
		if err == api.OK {
			is(t, "DecodeBlock of "+seenBlock(b), decodedBlock(plainBlock(b)), "0 "+seenBlock(b))
		}
	}
	enough(t, met, api.OK, api.ErrBlock)
}

// P1502, P1505: votes, likewise.
func TestVotesThereAndBack(t *testing.T) {
	met := map[api.Errno]int{}
	for _, v := range votes() {
		err := voteError(v)
		met[err]++
		is(t, "EncodeVote of "+seenVote(v), encodedVote(v), told(plainVote(v), err))
		if err == api.OK {
			is(t, "DecodeVote of "+seenVote(v), decodedVote(plainVote(v)), "0 "+seenVote(v))
		}
	}
	enough(t, met, api.OK, api.ErrVote)
}

// P1502, P1505: proposals, likewise.
func TestProposalsThereAndBack(t *testing.T) {
	met := map[api.Errno]int{}
	for _, p := range proposals() {
		err := proposalError(p)
		met[err]++
		is(t, "EncodeProposal of "+seenProposal(p), encodedProposal(p), told(plainProposal(p), err))
		if err == api.OK {
			is(t, "DecodeProposal of "+seenProposal(p), decodedProposal(plainProposal(p)), "0 "+seenProposal(p))
		}
	}
	enough(t, met, api.OK, api.ErrVote, api.ErrBlock)
}

// P1502, P1505: commits, likewise.
func TestCommitsThereAndBack(t *testing.T) {
	met := map[api.Errno]int{}
	for _, c := range commits() {
		err := commitError(c)
		met[err]++
		is(t, "EncodeCommit of "+seenCommit(c), encodedCommit(c), told(plainCommit(c), err))
		if err == api.OK {
			is(t, "DecodeCommit of "+seenCommit(c), decodedCommit(plainCommit(c)), "0 "+seenCommit(c))
		}
	}
	enough(t, met, api.OK, api.ErrVote)
}

// enough: each error came at least some times.
func enough(t *testing.T, met map[api.Errno]int, all ...api.Errno) {
	t.Helper()
	for _, err := range all {
		if met[err] < 20 {
			t.Errorf("just %d times: %d", met[err], int(err))
		}
	}
}

// P1502: limits of a block, each alone, and how EncodeBlock and EncodeProposal tell of them.
func TestBlockLimits(t *testing.T) {
	rows := []struct {
		what string
		f    func(b *api.Block)
		want api.Errno
	}{
		{"it", func(b *api.Block) {}, api.OK},
		{"Height 0", func(b *api.Block) { b.Height = 0 }, api.ErrBlock},
		{"Height 2^64 - 1", func(b *api.Block) { b.Height = math.MaxUint64 }, api.OK},
		{"Proposer -1", func(b *api.Block) { b.Proposer = -1 }, api.ErrBlock},
		{"Proposer 2^31 - 1", func(b *api.Block) { b.Proposer = 2147483647 }, api.OK},
		{"Proposer 2^31", func(b *api.Block) { b.Proposer = 2147483648 }, api.ErrBlock},
		{"Proposer 2^32", func(b *api.Block) { b.Proposer = 4294967296 }, api.ErrBlock},
		{"Round -1", func(b *api.Block) { b.Round = -1 }, api.ErrBlock},
		{"Round 2^31 - 1", func(b *api.Block) { b.Round = 2147483647 }, api.OK},
		{"Round 2^31", func(b *api.Block) { b.Round = 2147483648 }, api.ErrBlock},
		{"the least Round", func(b *api.Block) { b.Round = math.MinInt64 }, api.ErrBlock},
		{"64 empty Txs", func(b *api.Block) { b.Txs = make([][]byte, 64) }, api.OK},
		{"65 empty Txs", func(b *api.Block) { b.Txs = make([][]byte, 65) }, api.ErrBlock},
		{"24576 bytes", func(b *api.Block) { *b = blockOfSize(24576, 3) }, api.OK},
		{"24577 bytes", func(b *api.Block) { *b = blockOfSize(24577, 3) }, api.ErrBlock},
		{"65536 bytes", func(b *api.Block) { *b = blockOfSize(65536, 3) }, api.ErrBlock},
		{"65537 bytes", func(b *api.Block) { *b = blockOfSize(65537, 3) }, api.ErrBlock},
		{"far too many bytes", func(b *api.Block) { b.Txs = [][]byte{make([]byte, 1<<22)} }, api.ErrBlock},
		{"far too many Txs", func(b *api.Block) { b.Txs = make([][]byte, 1<<20) }, api.ErrBlock},
	}
	for _, r := range rows {
		b := change(someBlock(), r.f)
		_, err := chain.EncodeBlock(b)
		is(t, "EncodeBlock of one with "+r.what, int(err), int(r.want))
		enc, err := chain.EncodeProposal(change(someProposal(), func(p *api.Proposal) { p.Block = b }))
		is(t, "EncodeProposal of one with "+r.what, fmt.Sprint(int(err), len(enc) == 0), fmt.Sprint(int(r.want), r.want != api.OK))
		is(t, "Hash of one with "+r.what, chain.Hash(b) == api.Hash{}, r.want != api.OK)
	}
	big := slices.Repeat([][]byte{make([]byte, 1<<25)}, 64)
	_, err := chain.EncodeBlock(api.Block{Height: 1, Txs: big})
	is(t, "EncodeBlock of much that is handed in again and again", int(err), int(api.ErrBlock))
}

// P1502: the greatest block stands within a proposal whose own numbers are the greatest, too.
func TestGreatestProposal(t *testing.T) {
	p := api.Proposal{Height: math.MaxUint64, Round: math.MaxInt32, Valid: math.MaxInt32, Block: blockOfSize(24576, 5), By: math.MaxInt32, Sig: sig(3)}
	enc, err := chain.EncodeProposal(p)
	is(t, "EncodeProposal", fmt.Sprint(int(err), len(enc), bytes.Equal(enc, plainProposal(p))), "0 24669 true")
	is(t, "DecodeProposal", decodedProposal(enc), "0 "+seenProposal(p))
}

// P1502: of a proposal the numbers' error comes ahead of the block's.
func TestProposalOrder(t *testing.T) {
	for faults := range 32 {
		p := someProposal()
		want := api.OK
		if faults&16 != 0 {
			p.Block.Txs, want = make([][]byte, 65), api.ErrBlock
		}
		if faults&8 != 0 {
			p.Block.Proposer, want = -1, api.ErrBlock
		}
		if faults&1 != 0 {
			p.Round, want = -1, api.ErrVote
		}
		if faults&2 != 0 {
			p.Valid, want = -2, api.ErrVote
		}
		if faults&4 != 0 {
			p.By, want = 1<<31, api.ErrVote
		}
		enc, err := chain.EncodeProposal(p)
		is(t, fmt.Sprintf("EncodeProposal with faults %05b", faults), fmt.Sprint(int(err), len(enc) == 0), fmt.Sprint(int(want), want != api.OK))
	}
}

// commitOfSize: a commit whose encoding has so many bytes.
func commitOfSize(size int) api.Commit {
	c := api.Commit{Height: 1, Block: hash(1)}
	for len(plainCommit(c)) < size-220 {
		c.Votes = append(c.Votes, slices.Repeat([]api.Vote{{Kind: 2, Block: hash(2), Sig: sig(3)}}, 1+(size-220-len(plainCommit(c)))/107)...)
	}
	for len(plainCommit(c)) < size-105 {
		c.Votes = append(c.Votes, api.Vote{Kind: 2, Block: hash(2), Sig: sig(3)})
	}
	for i := 0; len(plainCommit(c)) < size; i++ { // a byte more each time
		v := &c.Votes[i/8]
		v.Height = v.Height<<8 | 0x80
	}
	if len(plainCommit(c)) != size {
		panic(fmt.Sprint("no commit of ", size, " bytes"))
	}
	return c
}

// P1502: commits of MaxRlp bytes, of one less, of one more and of far more.
func TestCommitLimits(t *testing.T) {
	for _, size := range []int{65535, 65536} {
		c := commitOfSize(size)
		enc, err := chain.EncodeCommit(c)
		is(t, fmt.Sprint("EncodeCommit of ", size), fmt.Sprint(int(err), len(enc), bytes.Equal(enc, plainCommit(c)), len(c.Votes)), fmt.Sprint(0, size, true, len(c.Votes)))
		if d, err := chain.DecodeCommit(enc); err != api.OK || seenCommit(d) != seenCommit(c) {
			t.Errorf("DecodeCommit of %d bytes: %d", size, int(err))
		}
	}
	for _, size := range []int{65537, 65538, 70000} {
		c := commitOfSize(size)
		is(t, fmt.Sprint("EncodeCommit of ", size), encodedCommit(c), "3 ")
		is(t, fmt.Sprint("DecodeCommit of ", size), decodedCommit(plainCommit(c)), "3 "+seenCommit(api.Commit{}))
	}
	for _, n := range []int{620, 623, 624, 630, 681, 682, 683, 684, 700, 1000, 100000} {
		c := api.Commit{Votes: make([]api.Vote, n)}
		is(t, fmt.Sprint("EncodeCommit of so many votes: ", n), encodedCommit(c), told(plainCommit(c), commitError(c)))
		for _, i := range []int{0, n / 2, n - 1} { // a number's error comes ahead of that
			d := api.Commit{Votes: slices.Clone(c.Votes)}
			d.Votes[i].By = -1
			is(t, fmt.Sprint("EncodeCommit of so many votes, one of them wrong: ", n, i), encodedCommit(d), "71 ")
		}
		c.Round = 1 << 31
		is(t, fmt.Sprint("EncodeCommit of so many votes, with a round that is too great: ", n), encodedCommit(c), "71 ")
	}
}

// P1502: numbers are not bound to one another, nor to what can be, by an encoding.
func TestEncodeWhatCantBe(t *testing.T) {
	is(t, "a vote of kind 0, height 0", encodedVote(api.Vote{}), told(plainVote(api.Vote{}), api.OK))
	p := api.Proposal{Height: 0, Round: 1, Valid: 5, Block: api.Block{Height: 3}, By: 77}
	is(t, "a proposal of another height", encodedProposal(p), told(plainProposal(p), api.OK))
	c := api.Commit{Votes: []api.Vote{{By: 3}, {By: 3, Height: 9}, {By: 1, Kind: 7}}}
	is(t, "a commit of anything", encodedCommit(c), told(plainCommit(c), api.OK))
	is(t, "back", decodedCommit(plainCommit(c)), "0 "+seenCommit(c))
}
