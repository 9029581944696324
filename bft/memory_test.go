package bft_test

import (
	"bytes"
	"fmt"
	"slices"
	"testing"

	"conclave/api"
	"conclave/bft"
)

// spoil: writes over all bytes, the room behind them too.
func spoil(b []byte) {
	b = b[:cap(b)]
	for i := range b {
		b[i] ^= 0xa5
	}
}

// spoilTxs: writes over all Txs, then over their list, the room behind them too.
func spoilTxs(b api.Block) {
	txs := b.Txs[:cap(b.Txs)]
	for i := range txs {
		spoil(txs[i])
		_ = append(txs[i], "++++"...)
		txs[i] = []byte("gone")
	}
}

// spoilTold: writes over all that is told, the room behind it too.
func spoilTold(told []bft.Out) {
	told = told[:cap(told)]
	for i := range told {
		spoilTxs(told[i].Block)
		told[i] = bft.Out{Kind: 77}
	}
}

// roomy: the same proposal, with room behind each of its lists.
func roomy(p api.Proposal) api.Proposal {
	var txs [][]byte
	for _, tx := range p.Block.Txs {
		txs = append(txs, append(slices.Clone(tx), "room"...)[:len(tx)])
	}
	p.Block.Txs = append(txs, []byte("room"))[:len(txs)]
	return p
}

// seenRoom: a block with what is behind its lists.
func seenRoom(b api.Block) string {
	text := ""
	for _, tx := range b.Txs[:cap(b.Txs)] {
		text += fmt.Sprintf("%q ", tx[:cap(tx)])
	}
	return text + fmt.Sprint(b)
}

// Rule 4: a proposal that is handed in is neither changed nor kept, its spare room neither; nor by who is asked whether its block is right.
func TestProposalHandedIn(t *testing.T) {
	var asked []api.Block
	m := madeBy(t, 1, 0, func(b api.Block) bool {
		asked = append(asked, b)
		for i := range b.Txs {
			_ = append(b.Txs[i], "++++"...)
		}
		_ = append(b.Txs, []byte("++++"))
		return true
	})
	m.Start()
	p := roomy(proposal(1, 0, -1, 1))
	was := seenRoom(p.Block)
	says(t, "Propose", m.Propose(p), "prevote 0 for b1")
	m.Propose(p)
	spoilTxs(asked[0])
	if got := seenRoom(p.Block); got != was {
		t.Errorf("changed: %s, not %s", got, was)
	}
	spoilTxs(p.Block)
	m.Vote(prevote(0, 0, 1))
	if got := seenBlock(savedBlock(t, m)); got != "b1" {
		t.Errorf("saved: %s", got)
	}
	says(t, "the next round", m.Timeout(3, 0), "propose 1 valid 0 has block b1; timer 1 which 1")
	says(t, "its commit", m.Vote(precommit(0, 0, 1)), "commit 0 for b1 block b1")
}

// savedBlock: the valid block, as it is told by a machine that is restored.
func savedBlock(t *testing.T, m *bft.Machine) api.Block {
	next := made(t, 1, 0)
	is(t, "Restore", next.Restore(m.Save()), api.OK)
	next.Start()
	for _, o := range next.Timeout(3, next.State().Round) {
		if o.Has {
			return o.Block
		}
	}
	return api.Block{}
}

// Rule 4: blocks that are told are new memory each time, and so is each list in them.
func TestBlocksHandedOut(t *testing.T) {
	m := made(t, 1, 0)
	spoilTold(m.Start())
	spoilTold(m.Propose(proposal(1, 0, -1, 1)))
	spoilTold(m.Vote(prevote(0, 0, 1)))
	for round := range 3 {
		told := m.Timeout(3, round)
		want := fmt.Sprintf("propose %d valid 0 has block b1; timer %d which 1", round+1, round+1)
		says(t, "Timeout", told, want)
		_ = append(told, bft.Out{Kind: 78})
		spoilTold(told)
	}
	if got := seenBlock(savedBlock(t, m)); got != "b1" {
		t.Errorf("saved: %s", got)
	}
	told := m.Vote(precommit(0, 0, 1))
	says(t, "Vote", told, "commit 0 for b1 block b1")
	spoilTold(told)
	m.Vote(prevote(0, 0, 1))
	if got := seenBlock(savedBlock(t, m)); got != "b1" {
		t.Errorf("saved: %s", got)
	}
}

// Rule 4: what was told stays as it is, whatever comes then.
func TestToldStays(t *testing.T) {
	m := made(t, 1, 0)
	m.Start()
	m.Propose(proposal(1, 0, -1, 1))
	m.Vote(prevote(0, 0, 1))
	first := m.Timeout(3, 0)
	second := m.Timeout(3, 1)
	kept := m.Votes(1, 0, hash(1))
	m.Propose(proposal(1, 2, -1, 2))
	m.Vote(prevote(2, 0, 2))
	m.Vote(precommit(0, 0, 1))
	says(t, "first", first, "propose 1 valid 0 has block b1; timer 1 which 1")
	spoilTold(first)
	says(t, "second", second, "propose 2 valid 0 has block b1; timer 2 which 1")
	if len(kept) != 1 || kept[0] != prevote(0, 0, 1) {
		t.Errorf("votes: %v", kept)
	}
}

// Rule 4: Votes and Save hand out new memory, and Restore keeps none.
func TestSavedHandedOut(t *testing.T) {
	m := made(t, 4, 0)
	text := append(whole().text(), "room"...)
	is(t, "Restore", m.Restore(text[:len(text)-4]), api.OK)
	if string(text[len(text)-4:]) != "room" || !bytes.Equal(text[:len(text)-4], whole().text()) {
		t.Errorf("changed: %x", text)
	}
	spoil(text)
	for range 2 {
		b := m.Save()
		if !bytes.Equal(b, whole().text()) {
			t.Errorf("saved: %x", b)
		}
		_ = append(b, "++++"...)
		spoil(b)
		l := m.Votes(1, 3, hash(2))
		has(t, "Votes", m, 1, 3, 2, 0, 2, 3)
		_ = append(l, api.Vote{Kind: 9})
		l = l[:cap(l)]
		for i := range l {
			l[i] = api.Vote{Kind: 9}
		}
		none := m.Votes(2, 3, hash(2))
		_ = append(none, api.Vote{Kind: 9})
	}
	m.Start()
	says(t, "rounds later", append(m.Timeout(3, 5), append(m.Timeout(3, 6), append(m.Timeout(3, 7), m.Timeout(3, 8)...)...)...), "timer 6 which 1; timer 7 which 1; timer 8 which 1; propose 9 valid 3 has block b2; timer 9 which 1")
}

// Rule 4: the blocks of two machines, one restored from the other, are apart.
func TestMachinesApart(t *testing.T) {
	p := proposal(1, 0, -1, 1)
	a, b := made(t, 1, 0), made(t, 1, 0)
	for _, m := range []*bft.Machine{a, b} {
		m.Start()
		m.Propose(p)
		m.Vote(prevote(0, 0, 1))
	}
	spoilTold(a.Timeout(3, 0))
	spoilTold(a.Vote(precommit(0, 0, 1)))
	says(t, "the other", b.Vote(precommit(0, 0, 1)), "commit 0 for b1 block b1")
}
