package node

import (
	"bytes"
	"slices"

	"conclave/api"
	"conclave/tx"
)

const mostNew = 20000 // bytes of the transactions in a new block

// waiting: a transaction of the pool.
type waiting struct {
	bytes []byte
	from  api.Addr
	nonce uint64
}

// admit: a transaction is behind the pool, if nothing is against it.
func (n *Node) admit(b []byte) api.Errno {
	t, err := tx.Decode(b)
	if err != api.OK {
		return err
	}
	if err := tx.Check(n.genesis.Chain, t); err != api.OK {
		return err
	}
	w := waiting{bytes: bytes.Clone(b), from: tx.Sender(t.From), nonce: t.Nonce}
	same := func(other waiting) bool { return bytes.Equal(other.bytes, b) }
	switch {
	case w.nonce < n.State().Nonce(w.from):
		return api.ErrNonce
	case slices.ContainsFunc(n.pool, same):
		return api.ErrExists
	case len(n.pool) >= api.MaxPool:
		return api.ErrBig
	}
	n.pool = append(n.pool, w)
	return api.OK
}

// clean: behind a block the pool has none that stands in it, and none that can't be carried out any more.
func (n *Node) clean(b api.Block) {
	s := n.State()
	n.pool = slices.DeleteFunc(n.pool, func(w waiting) bool {
		stands := func(other []byte) bool { return bytes.Equal(other, w.bytes) }
		return w.nonce < s.Nonce(w.from) || slices.ContainsFunc(b.Txs, stands)
	})
}

// newBlock: one that follows, proposed in a round.
func (n *Node) newBlock(round int) api.Block {
	return api.Block{
		Height:   n.height(),
		Prev:     n.end.hash,
		State:    n.end.root,
		Proposer: n.me,
		Round:    round,
		Txs:      n.chosen(),
	}
}

// chosen: transactions of the pool that have room in a block.
func (n *Node) chosen() [][]byte {
	var txs [][]byte
	size := 0
	for _, w := range n.pool {
		if len(txs) < api.MaxTxs && size+len(w.bytes) <= mostNew {
			txs, size = append(txs, w.bytes), size+len(w.bytes)
		}
	}
	return txs
}
