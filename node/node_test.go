package node_test

import (
	"bytes"
	"fmt"
	"slices"
	"sync"
	"testing"

	"conclave/api"
	"conclave/chain"
	"conclave/disk"
	"conclave/ed"
	"conclave/node"
	"conclave/tx"
	"conclave/word"
)

const (
	chainNo = 7
	room    = 1 << 24
	rich    = 1000000000 // of each sender
	senders = 8          // their seeds stand behind those of the validators
	counter = 0xc0       // the address of a contract that counts its calls in its slot 0, and logs
)

func seed(i int) []byte {
	s := make([]byte, 32)
	s[0], s[31] = byte(i), 9
	return s
}

// sender: the seed of a sender.
func sender(i int) []byte { return seed(100 + i) }

// keyOf: of a seed; each is asked for often.
func keyOf(s []byte) api.Key {
	if k, known := keys.Load(string(s)); known {
		return k.(api.Key)
	}
	k, err := ed.Public(s)
	if err != api.OK {
		panic(err)
	}
	keys.Store(string(s), k)
	return k
}

var keys sync.Map

func addrOf(s []byte) api.Addr { return tx.Sender(keyOf(s)) }

func address(i int) api.Addr { return api.Addr{19: byte(i)} }

// genesis: of n validators with the seeds 0 to n - 1.
func genesis(n int) api.Genesis {
	g := api.Genesis{Chain: chainNo}
	for i := range n {
		g.Keys = append(g.Keys, keyOf(seed(i)))
	}
	for i := range senders {
		g.Allocs = append(g.Allocs, api.Alloc{Addr: addrOf(sender(i)), Balance: word.Of(rich)})
	}
	code := []byte{0x60, 0, 0x54, 0x60, 1, 0x01, 0x60, 0, 0x55, 0x60, 1, 0x60, 0, 0xa0, 0x00}
	g.Allocs = append(g.Allocs, api.Alloc{Addr: address(counter), Code: code})
	return g
}

// fresh: a disk without files.
func fresh(t testing.TB) *disk.Disk {
	t.Helper()
	d, err := disk.New(room)
	if err != api.OK {
		t.Fatal(err)
	}
	return d
}

// opened: the validator me of n, on a disk.
func opened(t testing.TB, n, me int, d *disk.Disk) *node.Node {
	t.Helper()
	x, err := node.Open(genesis(n), me, seed(me), d)
	if err != api.OK || x == nil {
		t.Fatalf("Open of %d of %d: %v, %d", me, n, x, err)
	}
	return x
}

// alone: a single validator, on a disk of its own.
func alone(t testing.TB) (*node.Node, *disk.Disk) {
	t.Helper()
	d := fresh(t)
	return opened(t, 1, 0, d), d
}

// grow: a single validator begins its current height, which commits the block.
func grow(t testing.TB, n *node.Node) node.Act {
	t.Helper()
	h := n.Height() + 1
	a := n.Timeout(node.Timer{Height: h, Which: 5})
	if n.Height() != h {
		t.Fatalf("height %d, not %d: error %d", n.Height(), h, n.Err())
	}
	return a
}

// signed: the bytes of a transaction of a sender.
func signed(i int, x api.Tx) []byte {
	x, err := tx.Sign(chainNo, sender(i), x)
	if err != api.OK {
		panic(err)
	}
	b, err := tx.Encode(x)
	if err != api.OK {
		panic(err)
	}
	return b
}

// pay: a transaction of a sender, that pays to an address.
func pay(i int, nonce uint64, to, value int) []byte {
	return signed(i, api.Tx{Nonce: nonce, Price: 1, Gas: 100000, To: address(to), Value: word.Of(uint64(value))})
}

// long: a payment with so many bytes of data.
func long(i int, nonce uint64, size int) []byte {
	return signed(i, api.Tx{Nonce: nonce, Gas: 200000, To: address(1), Value: word.Of(1), Data: make([]byte, size)})
}

// submitted: a node takes it.
func submitted(t testing.TB, n *node.Node, b []byte) {
	t.Helper()
	a, err := n.Submit(b)
	want := node.Act{Sends: []node.Send{{To: -1, Data: append([]byte{node.KTx}, b...)}}}
	if err != api.OK || !alike(a, want) {
		t.Fatalf("Submit: %s, %d", told(a), err)
	}
}

// alike: two Acts are the same.
func alike(a, b node.Act) bool {
	return a.Ahead == b.Ahead && slices.Equal(a.Timers, b.Timers) &&
		slices.EqualFunc(a.Sends, b.Sends, func(x, y node.Send) bool { return x.To == y.To && bytes.Equal(x.Data, y.Data) })
}

// nothing: an Act that is zero.
func nothing(a node.Act) bool { return len(a.Sends) == 0 && len(a.Timers) == 0 && a.Ahead == 0 }

// told: an Act, so that it can be read.
func told(a node.Act) string {
	s := fmt.Sprint("ahead ", a.Ahead, " timers ", a.Timers, " sends")
	for _, x := range a.Sends {
		s += fmt.Sprintf(" %d:%s", x.To, named(x.Data))
	}
	return s
}

// named: what a message is.
func named(data []byte) string {
	if len(data) == 0 {
		return "empty"
	}
	switch data[0] {
	case node.KProposal:
		if p, err := chain.DecodeProposal(data[1:]); err == api.OK {
			return fmt.Sprintf("proposal(%d %d %d by %d, %d txs of %d %d)", p.Height, p.Round, p.Valid, p.By, len(p.Block.Txs), p.Block.Proposer, p.Block.Round)
		}
	case node.KVote:
		if v, err := chain.DecodeVote(data[1:]); err == api.OK {
			return fmt.Sprintf("vote(%d %d %d by %d for %x)", v.Kind, v.Height, v.Round, v.By, v.Block[:2])
		}
	}
	return fmt.Sprintf("%x..(%d)", data[:min(4, len(data))], len(data))
}

// proposalOf: what a message holds.
func proposalOf(t testing.TB, data []byte) api.Proposal {
	t.Helper()
	if len(data) == 0 || data[0] != node.KProposal {
		t.Fatalf("no proposal: %s", named(data))
	}
	p, err := chain.DecodeProposal(data[1:])
	if err != api.OK {
		t.Fatalf("proposal: %d", err)
	}
	return p
}

func voteOf(t testing.TB, data []byte) api.Vote {
	t.Helper()
	if len(data) == 0 || data[0] != node.KVote {
		t.Fatalf("no vote: %s", named(data))
	}
	v, err := chain.DecodeVote(data[1:])
	if err != api.OK {
		t.Fatalf("vote: %d", err)
	}
	return v
}

// voteBy: the message of a validator's vote, which holds.
func voteBy(by, kind int, height uint64, round int, h api.Hash) []byte {
	v := api.Vote{Kind: kind, Height: height, Round: round, Block: h, By: by}
	v.Sig, _ = ed.Sign(seed(by), chain.VoteBytes(chainNo, v))
	return voteMessage(v)
}

func voteMessage(v api.Vote) []byte {
	b, err := chain.EncodeVote(v)
	if err != api.OK {
		panic(err)
	}
	return append([]byte{node.KVote}, b...)
}

// proposalBy: the message of a validator's proposal, signed by it.
func proposalBy(by, round, valid int, b api.Block) []byte {
	p := api.Proposal{Height: b.Height, Round: round, Valid: valid, Block: b, By: by}
	p.Sig, _ = ed.Sign(seed(by), chain.ProposalBytes(chainNo, p))
	return proposalMessage(p)
}

func proposalMessage(p api.Proposal) []byte {
	b, err := chain.EncodeProposal(p)
	if err != api.OK {
		panic(err)
	}
	return append([]byte{node.KProposal}, b...)
}

// next: a block that follows at a node of n validators, as the proposer of a round makes it.
func next(x *node.Node, n, round int, txs ...[]byte) api.Block {
	h := x.Height() + 1
	b := api.Block{Height: h, State: x.Root(), Proposer: chain.Proposer(h, round, n), Round: round, Txs: txs}
	if last, _, there := x.At(h - 1); there {
		b.Prev = chain.Hash(last)
	}
	return b
}

// commitBy: of a block by these validators, in a round.
func commitBy(b api.Block, round int, by ...int) api.Commit {
	c := api.Commit{Height: b.Height, Round: round, Block: chain.Hash(b)}
	for _, i := range by {
		v := api.Vote{Kind: api.Precommit, Height: b.Height, Round: round, Block: c.Block, By: i}
		v.Sig, _ = ed.Sign(seed(i), chain.VoteBytes(chainNo, v))
		c.Votes = append(c.Votes, v)
	}
	return c
}

// The chapter's example.
func TestExample(t *testing.T) {
	n, _ := alone(t)
	a := n.Start()
	timers := []node.Timer{{Height: 1, Which: 1, Delay: 30}, {Height: 1, Which: 4, Delay: 25}, {Height: 2, Which: 5, Delay: 5}}
	if !slices.Equal(a.Timers, timers) || a.Ahead != 0 || len(a.Sends) != 3 {
		t.Fatalf("Start: %s", told(a))
	}
	for _, s := range a.Sends {
		if s.To != -1 {
			t.Errorf("to %d", s.To)
		}
	}
	p, prevote, precommit := proposalOf(t, a.Sends[0].Data), voteOf(t, a.Sends[1].Data), voteOf(t, a.Sends[2].Data)
	if p.Height != 1 || p.Round != 0 || p.Valid != -1 || p.By != 0 || chain.CheckProposal(genesis(1), p) != api.OK {
		t.Errorf("proposal %v", p)
	}
	root, _ := chain.Start(genesis(1))
	if p.Block.Height != 1 || p.Block.Prev != (api.Hash{}) || p.Block.State != root || len(p.Block.Txs) != 0 {
		t.Errorf("block %v", p.Block)
	}
	for kind, v := range []api.Vote{prevote, precommit} {
		if v.Kind != kind+1 || v.Height != 1 || v.Round != 0 || v.By != 0 || v.Block != chain.Hash(p.Block) || chain.CheckVote(genesis(1), v) != api.OK {
			t.Errorf("vote %v", v)
		}
	}
	b, c, there := n.At(1)
	if n.Height() != 1 || !there || chain.Hash(b) != chain.Hash(p.Block) || !slices.Equal(c.Votes, []api.Vote{precommit}) {
		t.Errorf("height %d: %v %v %v", n.Height(), b, c, there)
	}
	a = n.Timeout(a.Timers[2])
	if n.Height() != 2 || len(a.Sends) != 3 || a.Timers[len(a.Timers)-1] != (node.Timer{Height: 3, Which: 5, Delay: 5}) {
		t.Errorf("height %d: %s", n.Height(), told(a))
	}
	b, _, _ = n.At(2)
	if b.Prev != chain.Hash(p.Block) || b.State != root {
		t.Errorf("block %v", b)
	}
}

// A node that is nil answers, too.
func TestNil(t *testing.T) {
	var n *node.Node
	for _, a := range []node.Act{n.Start(), n.Handle(0, voteBy(0, 1, 1, 0, api.Hash{})), n.Handle(0, nil), n.Timeout(node.Timer{Height: 1, Which: 4})} {
		if !nothing(a) {
			t.Error(told(a))
		}
	}
	if a, err := n.Submit(pay(0, 0, 1, 1)); !nothing(a) || err != api.ErrNil {
		t.Errorf("Submit: %s, %d", told(a), err)
	}
	if a, err := n.Apply(api.Block{}, api.Commit{}); !nothing(a) || err != api.ErrNil {
		t.Errorf("Apply: %s, %d", told(a), err)
	}
	if n.Err() != api.ErrNil || n.Height() != 0 || n.Root() != (api.Hash{}) || len(n.Receipts(1)) != 0 || n.State() != nil || len(n.Pool()) != 0 {
		t.Error("looks of nil")
	}
	for _, h := range []uint64{0, 1} {
		if b, c, there := n.At(h); there || b.Height != 0 || len(c.Votes) != 0 {
			t.Error("At of nil")
		}
		if len(n.Receipts(h)) != 0 {
			t.Error("Receipts of nil")
		}
	}
}

// Two nodes share nothing but what they are opened on.
func TestApart(t *testing.T) {
	a, _ := alone(t)
	b, _ := alone(t)
	submitted(t, a, pay(0, 0, 1, 1))
	grow(t, a)
	grow(t, a)
	if b.Height() != 0 || len(b.Pool()) != 0 || b.Root() == a.Root() {
		t.Error("a node has what another one was told")
	}
	grow(t, b)
	if b.Height() != 1 || a.Height() != 2 {
		t.Error("heights")
	}
}
