package node_test

import (
	"bytes"
	"fmt"
	"slices"
	"testing"

	"conclave/api"
	"conclave/chain"
	"conclave/node"
	"conclave/word"
)

// spoil: bytes become others, and the room behind them too.
func spoil(b []byte) {
	b = b[:cap(b)]
	for i := range b {
		b[i] ^= 0x5a
	}
}

// roomy: the same bytes, with room behind them.
func roomy(b []byte) []byte { return append(make([]byte, 0, len(b)+50), b...) }

// What Open was handed is changed behind it. (P1901)
func TestMemoryOfOpen(t *testing.T) {
	g := genesis(4)
	g.Allocs[0].Code = roomy([]byte{0x60, 1, 0x00})
	s := roomy(seed(1))
	was := fmt.Sprint(g, s)
	d := fresh(t)
	n, err := node.Open(g, 1, s, d)
	if err != api.OK || fmt.Sprint(g, s) != was {
		t.Fatal("Open has changed what it was handed")
	}
	spoil(s)
	for i := range g.Keys {
		g.Keys[i] = keyOf(seed(50))
	}
	spoil(g.Allocs[0].Code)
	for i := range g.Allocs {
		g.Allocs[i].Balance = word.Of(3)
	}
	a := n.Start()
	if p := proposalOf(t, a.Sends[0].Data); chain.CheckProposal(genesis(4), p) != api.OK {
		t.Error("signed by another one")
	}
	b := proposalOf(t, a.Sends[0].Data).Block
	applies(t, "a block", n, b, commitBy(b, 0, 0, 2, 3), api.OK)
	if x := n.State(); !bytes.Equal(x.Code(addrOf(sender(0))), []byte{0x60, 1, 0x00}) || x.Balance(addrOf(sender(1))) != word.Of(rich) {
		t.Error("another state")
	}
}

// What a call was handed is changed behind it. (P1902, P1903, P1904)
func TestMemoryIn(t *testing.T) {
	n := begun(t, 0)
	b := next(n, 4, 0, pay(0, 0, 1, 1), pay(1, 0, 1, 1))
	h := chain.Hash(b)
	hands := func(data []byte) node.Act {
		t.Helper()
		in := roomy(data)
		a := n.Handle(1, in)
		if !bytes.Equal(in, data) {
			t.Error("Handle has changed what it was handed")
		}
		spoil(in)
		return a
	}
	proposal := proposalBy(1, 0, -1, b)
	says(t, "proposal", n, hands(proposal), voted(1, 1, 0, 0, h))
	hands(voteBy(1, 1, 1, 0, h))
	says(t, "prevote", n, hands(voteBy(2, 1, 1, 0, h)), voted(2, 1, 0, 0, h))
	again := n.Timeout(node.Timer{Height: 1, Which: 4}).Sends
	if len(again) != 5 || !bytes.Equal(again[0].Data, proposal) || !bytes.Equal(again[2].Data, voteBy(1, 1, 1, 0, h)) || !bytes.Equal(again[3].Data, voteBy(2, 1, 1, 0, h)) {
		t.Error("what is kept is changed")
	}
	for i := range uint64(2) {
		in := roomy(pay(2, i, 1, 1))
		var a node.Act
		if i == 0 {
			a, _ = n.Submit(in)
		} else {
			a = n.Handle(1, append([]byte{node.KTx}, in...))
		}
		spoil(in)
		if !bytes.Equal(a.Sends[0].Data[1:], pay(2, i, 1, 1)) {
			t.Error("what is sent is changed")
		}
		spoil(a.Sends[0].Data)
		if !bytes.Equal(n.Pool()[i], pay(2, i, 1, 1)) {
			t.Error("what waits is changed")
		}
	}
	hands(voteBy(1, 2, 1, 0, h))
	says(t, "commit", n, hands(voteBy(2, 2, 1, 0, h)), "", [2]int{0, 5})
	if got, c, _ := n.At(1); chain.Hash(got) != h || chain.CheckCommit(genesis(4), c) != api.OK {
		t.Error("the block is changed")
	}
	b = next(n, 4, 0, roomy(pay(0, 1, 1, 1)))
	c := commitBy(b, 0, 1, 2, 3)
	want := fmt.Sprint(b, c)
	applies(t, "a block", n, b, c, api.OK)
	if fmt.Sprint(b, c) != want {
		t.Error("Apply has changed what it was handed")
	}
	spoil(b.Txs[0])
	b.Txs[0], c.Votes[0] = nil, api.Vote{}
	if got, commit, _ := n.At(2); fmt.Sprint(got, commit) != want || len(n.Receipts(2)) != 1 || n.Receipts(2)[0].Skipped {
		t.Error("the block is changed")
	}
}

// What a call told is changed behind it. (P1902, P1905)
func TestMemoryOut(t *testing.T) {
	n := of4(t, 1)
	var want [][]byte
	for i := range 3 {
		want = append(want, pay(i, 0, 1, 1))
		submitted(t, n, pay(i, 0, 1, 1))
	}
	for _, b := range n.Pool() {
		spoil(b)
	}
	if l := n.Pool(); len(l) == 3 {
		l[0] = nil
		_ = append(l[:1], nil)
	}
	if !slices.EqualFunc(n.Pool(), want, bytes.Equal) {
		t.Fatal("the pool is changed")
	}
	a := n.Start()
	p := proposalOf(t, a.Sends[0].Data)
	h := chain.Hash(p.Block)
	said := [][]byte{bytes.Clone(a.Sends[0].Data), bytes.Clone(a.Sends[1].Data)}
	spoil(a.Sends[0].Data)
	if !bytes.Equal(a.Sends[1].Data, said[1]) {
		t.Error("two messages share memory")
	}
	spoil(a.Sends[1].Data)
	a.Sends[0] = node.Send{}
	for range 2 {
		a := n.Timeout(node.Timer{Height: 1, Which: 4})
		if len(a.Sends) != 2 || !bytes.Equal(a.Sends[0].Data, said[0]) || !bytes.Equal(a.Sends[1].Data, said[1]) {
			t.Fatal("what is kept is changed")
		}
		spoil(a.Sends[0].Data)
		spoil(a.Sends[1].Data)
	}
	for _, kind := range []int{1, 2} {
		for _, by := range []int{0, 2} {
			n.Handle(0, voteBy(by, kind, 1, 0, h))
		}
	}
	counts := next(n, 4, 0, signed(3, api.Tx{Price: 1, Gas: 100000, To: address(counter)}))
	applies(t, "a block", n, counts, commitBy(counts, 0, 0, 2, 3), api.OK)
	for height := uint64(1); height <= 2; height++ {
		b, c, there := n.At(height)
		receipts := n.Receipts(height)
		want := fmt.Sprint(b, c, receipts)
		if !there || len(receipts) == 0 {
			t.Fatalf("no block %d", height)
		}
		for _, x := range b.Txs {
			spoil(x)
		}
		for i := range c.Votes {
			c.Votes[i] = api.Vote{}
		}
		for _, r := range receipts {
			spoil(r.Out)
			for _, l := range r.Logs {
				spoil(l.Data)
				clear(l.Topics)
			}
			clear(r.Logs)
		}
		clear(b.Txs)
		clear(receipts)
		b, c, _ = n.At(height)
		if fmt.Sprint(b, c, n.Receipts(height)) != want {
			t.Errorf("block %d is changed", height)
		}
	}
	for range 2 { // what is done to a state that was told is of no matter
		s := n.State()
		if s.Balance(addrOf(sender(0))) == word.Of(7) || !bytes.Equal(s.Code(address(counter)), genesis(1).Allocs[senders].Code) {
			t.Fatal("the state is changed")
		}
		spoil(s.Code(address(counter)))
		s.SetBalance(addrOf(sender(0)), word.Of(7))
		s.Root()
	}
	root := n.Root()
	grown := next(n, 4, 0)
	applies(t, "an empty block", n, grown, commitBy(grown, 0, 0, 2, 3), api.OK)
	if n.Root() != root {
		t.Error("another state")
	}
}
