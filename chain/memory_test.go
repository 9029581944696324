package chain_test

import (
	"bytes"
	"fmt"
	"slices"
	"testing"

	"conclave/api"
	"conclave/chain"
	"conclave/trie"
)

// roomy: the same elements, with marked room behind them.
func roomy[T any](l []T, mark T) []T {
	return slices.Concat(l, slices.Repeat([]T{mark}, 5))[:len(l)]
}

// whole: elements with the room behind them.
func whole[T any](l []T) string { return fmt.Sprint(l[:cap(l)]) }

// spoil: writes over bytes, the room behind them too.
func spoil(b []byte) {
	b = b[:cap(b)]
	for i := range b {
		b[i] ^= 0xa5
	}
}

// spoilTxs: writes over all Txs, then over their list.
func spoilTxs(b api.Block) {
	txs := b.Txs[:cap(b.Txs)]
	for i := range txs {
		spoil(txs[i])
		txs[i] = []byte("gone")
	}
}

// spoilVotes: writes over all votes.
func spoilVotes(c api.Commit) {
	votes := c.Votes[:cap(c.Votes)]
	for i := range votes {
		votes[i] = api.Vote{Kind: 77, By: -1}
	}
}

// roomyBlock: with room behind each list.
func roomyBlock(b api.Block) api.Block {
	var txs [][]byte
	for _, t := range b.Txs {
		txs = append(txs, roomy(t, 0xee))
	}
	b.Txs = roomy(txs, []byte("room"))
	return b
}

// seenAll: a block with the room behind each list.
func seenAll(b api.Block) string {
	text := seenBlock(b) + whole(b.Txs)
	for _, t := range b.Txs {
		text += " " + whole(t)
	}
	return text
}

// Rule 4: what is handed in stays as it was, its spare room too.
func TestHandedIn(t *testing.T) {
	for _, b := range []api.Block{someBlock(), right4().Block, {Txs: [][]byte{{1}, {2}}}, change(someBlock(), func(b *api.Block) { b.Txs = make([][]byte, 65) }), blockOfSize(24577, 2)} {
		b = roomyBlock(b)
		p := signedProposal(change(right4(), func(p *api.Proposal) { p.Block = b }))
		was := seenAll(b)
		chain.EncodeBlock(b)
		chain.Hash(b)
		chain.EncodeProposal(p)
		chain.ProposalBytes(7, p)
		chain.CheckProposal(world(4), p)
		is(t, "the block", seenAll(b), was)
	}
	for _, c := range []api.Commit{commitBy(0, 1, 2), commitBy(2, 1, 0), commitBy(0, 0), commitBy(0, 1, -2), {}} {
		c.Votes = roomy(c.Votes, api.Vote{Kind: 9})
		was := whole(c.Votes)
		chain.EncodeCommit(c)
		chain.CheckCommit(world(4), c)
		is(t, "the votes", whole(c.Votes), was)
	}
	for _, n := range []int{4, 17} {
		g := world(n)
		g.Allocs = allocs(n * 2)
		for i := range g.Allocs {
			g.Allocs[i].Code = roomy(g.Allocs[i].Code, 0xee)
		}
		g.Keys, g.Allocs = roomy(g.Keys, api.Key{7}), roomy(g.Allocs, api.Alloc{Addr: addr(0)})
		seen := func() string {
			text := whole(g.Keys) + whole(g.Allocs)
			for _, a := range g.Allocs {
				text += whole(a.Code)
			}
			return text
		}
		was := seen()
		chain.RightGenesis(g)
		chain.Start(g)
		chain.CheckVote(g, signedVote(someVote4()))
		chain.CheckProposal(g, signedProposal(right4()))
		chain.CheckCommit(g, commitBy(0, 1, 2))
		is(t, "the genesis", seen(), was)
	}
	for _, k := range kinds() {
		b := roomy(k.inside(plainList(k.parts...)), 0xee)
		was := whole(b)
		k.decode(b)
		k.decode(b[:len(b)-1])
		is(t, "the bytes of "+k.name, whole(b), was)
	}
}

// Rule 4: nothing that is handed in is kept, and what is handed out is new memory: of encodings.
func TestEncodingsAreNew(t *testing.T) {
	b, p, c := someBlock(), someProposal(), someCommit()
	for range 2 {
		enc, _ := chain.EncodeBlock(b)
		spoil(enc)
		enc, _ = chain.EncodeProposal(p)
		spoil(enc)
		enc, _ = chain.EncodeCommit(c)
		spoil(enc)
		enc, _ = chain.EncodeVote(c.Votes[0])
		spoil(enc)
		spoil(chain.VoteBytes(7, c.Votes[0]))
		spoil(chain.ProposalBytes(7, p))
		is(t, "what was handed in", seenBlock(b)+seenProposal(p)+seenCommit(c), seenBlock(someBlock())+seenProposal(someProposal())+seenCommit(someCommit()))
	}
	one := api.Block{Height: 1, Txs: [][]byte{{5}}} // a byte that is its own encoding
	enc, _ := chain.EncodeBlock(one)
	spoilTxs(one)
	is(t, "the encoding", fmt.Sprintf("%x", enc), fmt.Sprintf("%x", plainBlock(api.Block{Height: 1, Txs: [][]byte{{5}}})))
}

// Rule 4: what Decode hands out shares nothing with the bytes, nor does one list of it with another.
func TestDecodedIsNew(t *testing.T) {
	raw := plainProposal(someProposal())
	p, _ := chain.DecodeProposal(raw)
	b, _ := chain.DecodeBlock(plainBlock(someBlock()))
	spoil(raw)
	is(t, "a proposal, once its bytes are others", seenProposal(p), seenProposal(someProposal()))
	raw = plainProposal(someProposal())
	p, _ = chain.DecodeProposal(raw)
	spoilTxs(p.Block)
	is(t, "the bytes, once the proposal is another", bytes.Equal(raw, plainProposal(someProposal())), true)

	for i := range b.Txs {
		b, _ := chain.DecodeBlock(plainBlock(someBlock()))
		spoil(b.Txs[i])
		want := someBlock()
		want.Txs[i] = slices.Clone(want.Txs[i])
		for j := range want.Txs[i] {
			want.Txs[i][j] ^= 0xa5
		}
		is(t, fmt.Sprint("the others, once one is another: ", i), seenBlock(b), seenBlock(want))
		_ = append(b.Txs[i], data(300)...)
		is(t, fmt.Sprint("the others, once one has more: ", i), seenBlock(b), seenBlock(want))
	}
	raw = plainCommit(someCommit())
	c, _ := chain.DecodeCommit(raw)
	spoil(raw)
	is(t, "a commit, once its bytes are others", seenCommit(c), seenCommit(someCommit()))
	spoilVotes(c)
	c, _ = chain.DecodeCommit(plainCommit(someCommit()))
	is(t, "another commit", seenCommit(c), seenCommit(someCommit()))
}

// Rule 4: what Start hands out is nobody else's.
func TestStartIsNew(t *testing.T) {
	g := world(4)
	g.Allocs = allocs(20)
	seen := func(root api.Hash, nodes []trie.Node) string { return fmt.Sprintf("%x %x", root, nodes) }
	want := seen(chain.Start(g))
	_, nodes := chain.Start(g)
	for _, n := range nodes {
		spoil(n.Enc)
	}
	is(t, "the codes", fmt.Sprintf("%x", g.Allocs), fmt.Sprintf("%x", allocs(20)))
	is(t, "Start again", seen(chain.Start(g)), want)
	root, nodes := chain.Start(g)
	for i := range g.Allocs {
		spoil(g.Allocs[i].Code)
	}
	is(t, "what it told, once the codes are others", seen(root, nodes), want)
	for i, n := range nodes {
		_ = append(n.Enc, data(900)...)
		is(t, fmt.Sprint("what it told, once a node has more: ", i), seen(root, nodes), want)
	}
}

// Rule 5: the same calls have the same answers.
func TestAgain(t *testing.T) {
	g := world(7)
	g.Allocs = allocs(30)
	seen := func() string {
		root, nodes := chain.Start(g)
		return fmt.Sprintf("%x %x %s %s %s %x %d %d", root, nodes, encodedBlock(someBlock()), encodedProposal(someProposal()), encodedCommit(someCommit()), chain.Hash(someBlock()), chain.CheckCommit(g, commitBy(first(5)...)), chain.CheckVote(g, someVote()))
	}
	want := seen()
	for range 20 {
		is(t, "again", seen(), want)
	}
}
