package node_test

import (
	"bytes"
	"fmt"
	"testing"

	"conclave/api"
	"conclave/bft"
	"conclave/chain"
	"conclave/ed"
	"conclave/evm"
	"conclave/node"
	"conclave/signer"
	"conclave/state"
	"conclave/trie"
	"conclave/tx"
)

// plain: a validator as the chapter's words say it, all on a disk that never fails, so that there is none: what would last is kept as it is.
type plain struct {
	g        api.Genesis
	me       int
	seed     []byte
	blocks   []api.Block
	commits  []api.Commit
	roots    []api.Hash      // without blocks, and behind each
	receipts [][]api.Receipt // of each block
	nodes    map[api.Hash][]byte
	marks    []marked // what was signed
	machine  *bft.Machine
	begun    bool
	kept     [][]byte
	pool     [][]byte
}

type marked struct {
	mark       signer.Mark
	text, note []byte
	sig        api.Sig
}

func newPlain(g api.Genesis, me int, seed []byte) *plain {
	p := &plain{g: g, me: me, seed: seed, nodes: map[api.Hash][]byte{}}
	root, nodes := chain.Start(g)
	p.roots = append(p.roots, root)
	p.save(nodes)
	p.reopen()
	return p
}

// reopen: what does not last is gone.
func (p *plain) reopen() {
	p.pool = nil
	p.come()
}

func (p *plain) come() {
	p.machine, _ = bft.New(len(p.g.Keys), p.me, p.current(), p.follows)
	p.begun, p.kept = false, nil
}

func (p *plain) current() uint64 { return uint64(len(p.blocks)) + 1 }

func (p *plain) root() api.Hash { return p.roots[len(p.blocks)] }

func (p *plain) prev() api.Hash {
	if len(p.blocks) == 0 {
		return api.Hash{}
	}
	return chain.Hash(p.blocks[len(p.blocks)-1])
}

func (p *plain) follows(b api.Block) bool {
	_, err := chain.EncodeBlock(b)
	if err != api.OK || b.Height != p.current() || b.Prev != p.prev() || b.State != p.root() {
		return false
	}
	return b.Proposer == chain.Proposer(b.Height, b.Round, len(p.g.Keys))
}

func (p *plain) save(nodes []trie.Node) {
	for _, x := range nodes {
		p.nodes[x.Hash] = x.Enc
	}
}

func (p *plain) told(h api.Hash) ([]byte, bool) {
	b, ok := p.nodes[h]
	return b, ok
}

// carry: the state behind a block, one transaction behind the other, and their receipts.
func (p *plain) carry(b api.Block) (*state.State, []api.Receipt) {
	s := state.Open(b.State, p.told)
	env := evm.Env{Chain: p.g.Chain, Height: b.Height, Time: b.Height, Proposer: tx.Sender(p.g.Keys[b.Proposer])}
	var l []api.Receipt
	left := uint64(api.BlockGas)
	for _, enc := range b.Txs {
		x, err := tx.Decode(enc)
		r := api.Receipt{Skipped: true, Err: err}
		if err == api.OK {
			r = tx.Apply(s, env, x, left)
		}
		left -= r.Used
		l = append(l, r)
	}
	return s, l
}

func (p *plain) add(b api.Block, c api.Commit) node.Timer {
	s, receipts := p.carry(b)
	p.receipts = append(p.receipts, receipts)
	root, nodes := s.Root()
	p.save(nodes)
	p.blocks, p.commits, p.roots = append(p.blocks, b), append(p.commits, c), append(p.roots, root)
	var left [][]byte
	for _, enc := range p.pool {
		x, _ := tx.Decode(enc)
		stands := false
		for _, other := range b.Txs {
			stands = stands || bytes.Equal(enc, other)
		}
		if !stands && x.Nonce >= p.nonce(x) {
			left = append(left, enc)
		}
	}
	p.pool = left
	p.come()
	return node.Timer{Height: p.current(), Which: 5, Delay: 5}
}

func (p *plain) state() *state.State { return state.Open(p.root(), p.told) }

func (p *plain) nonce(x api.Tx) uint64 { return p.state().Nonce(tx.Sender(x.From)) }

func (p *plain) start() node.Act {
	var a node.Act
	if p.begun {
		return a
	}
	p.begun = true
	if len(p.marks) > 0 {
		last := p.marks[len(p.marks)-1]
		if last.mark.Height == p.current() {
			if err := p.machine.Restore(last.note); err != api.OK {
				panic(err)
			}
			s := p.machine.State()
			for _, v := range p.machine.Votes(api.Prevote, s.Valid, s.ValidHash) {
				p.keep(voteMessage(v))
			}
		}
	}
	outs := p.machine.Start()
	outs = append(outs, bft.Out{Kind: bft.Timer, Which: 4})
	p.do(&a, outs)
	return a
}

func (p *plain) keep(data []byte) {
	for _, x := range p.kept {
		if bytes.Equal(x, data) {
			return
		}
	}
	p.kept = append(p.kept, data)
}

func (p *plain) sign(round, step int, text []byte) (api.Sig, bool) {
	m := signer.Mark{Height: p.current(), Round: round, Step: step}
	if len(p.marks) > 0 {
		last := p.marks[len(p.marks)-1]
		if m == last.mark && bytes.Equal(text, last.text) {
			return last.sig, true
		}
		if !signer.Less(last.mark, m) {
			return api.Sig{}, false
		}
	}
	sig, _ := ed.Sign(p.seed, text)
	p.marks = append(p.marks, marked{m, text, p.machine.Save(), sig})
	return sig, true
}

func (p *plain) say(a *node.Act, data []byte) {
	a.Sends = append(a.Sends, node.Send{To: -1, Data: data})
	p.keep(data)
}

func (p *plain) do(a *node.Act, outs []bft.Out) {
	for len(outs) > 0 {
		o := outs[0]
		outs = outs[1:]
		switch o.Kind {
		case bft.Propose:
			x := api.Proposal{Height: p.current(), Round: o.Round, Valid: o.Valid, Block: o.Block, By: p.me}
			if !o.Has {
				x.Block = p.newBlock(o.Round)
			}
			if sig, ok := p.sign(o.Round, 1, chain.ProposalBytes(p.g.Chain, x)); ok {
				x.Sig = sig
				p.say(a, proposalMessage(x))
				outs = append(outs, p.machine.Propose(x)...)
			}
		case bft.Prevote, bft.Precommit:
			x := api.Vote{Kind: api.Prevote, Height: p.current(), Round: o.Round, Block: o.Hash, By: p.me}
			step := 2
			if o.Kind == bft.Precommit {
				x.Kind, step = api.Precommit, 3
			}
			if sig, ok := p.sign(o.Round, step, chain.VoteBytes(p.g.Chain, x)); ok {
				x.Sig = sig
				p.say(a, voteMessage(x))
				outs = append(outs, p.machine.Vote(x)...)
			}
		case bft.Timer:
			delay := map[int]int{1: 30, 2: 10, 3: 10, 4: 25}[o.Which]
			for r := 0; r < o.Round && r < 1000; r++ {
				delay += 10
			}
			a.Timers = append(a.Timers, node.Timer{Height: p.current(), Round: o.Round, Which: o.Which, Delay: delay})
		case bft.Commit:
			votes := p.machine.Votes(api.Precommit, o.Round, o.Hash)[:chain.Quorum(len(p.g.Keys))]
			a.Timers = append(a.Timers, p.add(o.Block, api.Commit{Height: p.current(), Round: o.Round, Block: o.Hash, Votes: votes}))
			return
		}
	}
}

func (p *plain) newBlock(round int) api.Block {
	b := api.Block{Height: p.current(), Prev: p.prev(), State: p.root(), Proposer: p.me, Round: round}
	size := 0
	for _, enc := range p.pool {
		if len(b.Txs) == 64 {
			break
		}
		if size+len(enc) > 20000 {
			continue
		}
		size += len(enc)
		b.Txs = append(b.Txs, enc)
	}
	return b
}

func (p *plain) handle(data []byte) node.Act {
	var a node.Act
	if len(data) == 0 {
		return a
	}
	switch data[0] {
	case 1:
		x, err := chain.DecodeProposal(data[1:])
		if err == api.OK && x.Height > p.current() {
			a.Ahead = x.Height
		} else if err == api.OK && x.Height == p.current() && chain.CheckProposal(p.g, x) == api.OK {
			p.keep(data)
			p.do(&a, p.machine.Propose(x))
		}
	case 2:
		x, err := chain.DecodeVote(data[1:])
		if err == api.OK && x.Height > p.current() {
			a.Ahead = x.Height
		} else if err == api.OK && x.Height == p.current() && chain.CheckVote(p.g, x) == api.OK {
			p.keep(data)
			p.do(&a, p.machine.Vote(x))
		}
	case 3:
		a, _ = p.submit(data[1:])
	}
	return a
}

func (p *plain) timeout(t node.Timer) node.Act {
	var a node.Act
	if t.Height != p.current() {
		return a
	}
	switch t.Which {
	case 1, 2, 3:
		p.do(&a, p.machine.Timeout(t.Which, t.Round))
	case 4:
		for i, data := range p.kept {
			if i < 512 {
				a.Sends = append(a.Sends, node.Send{To: -1, Data: data})
			}
		}
		a.Timers = append(a.Timers, node.Timer{Height: p.current(), Which: 4, Delay: 25})
	case 5:
		a = p.start()
	}
	return a
}

func (p *plain) submit(b []byte) (node.Act, api.Errno) {
	x, err := tx.Decode(b)
	if err != api.OK {
		return node.Act{}, err
	}
	if err := tx.Check(p.g.Chain, x); err != api.OK {
		return node.Act{}, err
	}
	if x.Nonce < p.nonce(x) {
		return node.Act{}, api.ErrNonce
	}
	for _, other := range p.pool {
		if bytes.Equal(other, b) {
			return node.Act{}, api.ErrExists
		}
	}
	if len(p.pool) == 128 {
		return node.Act{}, api.ErrBig
	}
	p.pool = append(p.pool, b)
	return node.Act{Sends: []node.Send{{To: -1, Data: append([]byte{3}, b...)}}}, api.OK
}

func (p *plain) apply(b api.Block, c api.Commit) (node.Act, api.Errno) {
	if !p.follows(b) {
		return node.Act{}, api.ErrBlock
	}
	if err := chain.CheckCommit(p.g, c); err != api.OK {
		return node.Act{}, err
	}
	if c.Height != b.Height || c.Block != chain.Hash(b) {
		return node.Act{}, api.ErrCommit
	}
	return node.Act{Timers: []node.Timer{p.add(b, c)}}, api.OK
}

// holds: a node looks like the plain one at each height of the list, and at its end.
func (p *plain) holds(t *testing.T, what string, n *node.Node, heights ...uint64) {
	t.Helper()
	if n.Err() != api.OK || n.Height() != uint64(len(p.blocks)) || n.Root() != p.root() {
		t.Fatalf("%s: error %d, height %d (not %d), root %x (not %x)", what, n.Err(), n.Height(), len(p.blocks), n.Root(), p.root())
	}
	if got := n.Pool(); len(got) != len(p.pool) {
		t.Fatalf("%s: a pool of %d, not %d", what, len(got), len(p.pool))
	} else {
		for i, b := range got {
			if !bytes.Equal(b, p.pool[i]) {
				t.Fatalf("%s: number %d of the pool is another one", what, i)
			}
		}
	}
	if root, _ := n.State().Root(); root != p.root() {
		t.Fatalf("%s: the state's root is %x", what, root)
	}
	for _, h := range heights {
		p.holdsAt(t, what, n, h)
	}
}

func (p *plain) holdsAt(t *testing.T, what string, n *node.Node, h uint64) {
	t.Helper()
	b, c, there := n.At(h)
	receipts := n.Receipts(h)
	if h < 1 || h > uint64(len(p.blocks)) {
		if there || len(receipts) != 0 || fmt.Sprint(b, c) != fmt.Sprint(api.Block{}, api.Commit{}) {
			t.Fatalf("%s: something at height %d", what, h)
		}
		return
	}
	want := p.blocks[h-1]
	if !there || chain.Hash(b) != chain.Hash(want) || fmt.Sprint(c) != fmt.Sprint(p.commits[h-1]) {
		t.Fatalf("%s: at height %d: %v, %v, %v", what, h, b, c, there)
	}
	if l := p.receipts[h-1]; fmt.Sprint(receipts) != fmt.Sprint(l) {
		t.Fatalf("%s: receipts at height %d: %v, not %v", what, h, receipts, l)
	}
}
