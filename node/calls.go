package node

import (
	"conclave/api"
	"conclave/bft"
	"conclave/chain"
)

// Start: the current height begins.
func (n *Node) Start() Act {
	if n.halted() {
		return Act{}
	}
	d := &doing{Node: n}
	d.begin()
	return d.act()
}

// Handle: a message has come from somebody.
func (n *Node) Handle(from int, data []byte) Act {
	if n.halted() || len(data) == 0 {
		return Act{}
	}
	switch body := data[1:]; data[0] {
	case KProposal:
		if p, err := chain.DecodeProposal(body); err == api.OK {
			return hear(n, data, p.Height, p, chain.CheckProposal, n.current.machine.Propose)
		}
	case KVote:
		if v, err := chain.DecodeVote(body); err == api.OK {
			return hear(n, data, v.Height, v, chain.CheckVote, n.current.machine.Vote)
		}
	case KTx:
		a, _ := n.Submit(body)
		return a
	}
	return Act{}
}

// hear: a message of a height has come. By whom it was sent says nothing: by whom it was signed does.
func hear[T any](n *Node, data []byte, height uint64, x T, check func(g api.Genesis, x T) api.Errno, tell func(x T) []bft.Out) Act {
	switch {
	case height > n.height():
		return Act{Ahead: height}
	case height < n.height() || check(n.genesis, x) != api.OK:
		return Act{}
	}
	n.keep(data)
	d := &doing{Node: n, told: tell(x)}
	return d.act()
}

// Timeout: a timer has come.
func (n *Node) Timeout(t Timer) Act {
	if n.halted() || t.Height != n.height() {
		return Act{}
	}
	d := &doing{Node: n}
	switch t.Which {
	case waitProposal, waitPrevotes, waitPrecommits:
		d.told = n.current.machine.Timeout(t.Which, t.Round)
	case sendAgain:
		d.says = n.current.kept
		d.timer(again())
	case heightBegins:
		d.begin()
	}
	return d.act()
}

// Submit: a transaction has come, to stand in a block.
func (n *Node) Submit(b []byte) (Act, api.Errno) {
	switch {
	case n == nil:
		return Act{}, api.ErrNil
	case n.halted():
		return Act{}, api.ErrHalt
	}
	if err := n.admit(b); err != api.OK {
		return Act{}, err
	}
	d := &doing{Node: n, says: [][]byte{message(KTx, b)}}
	return d.act(), api.OK
}

// Apply: a block that others have committed.
func (n *Node) Apply(b api.Block, c api.Commit) (Act, api.Errno) {
	switch {
	case n == nil:
		return Act{}, api.ErrNil
	case n.halted():
		return Act{}, api.ErrHalt
	}
	if err := n.refuses(b, c); err != api.OK {
		return Act{}, err
	}
	d := &doing{Node: n}
	d.goOn(b, c)
	return d.act(), n.err
}
