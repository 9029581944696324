package node

import (
	"bytes"

	"conclave/api"
	"conclave/state"
	"conclave/tx"
)

// Err: why the node has halted.
func (n *Node) Err() api.Errno {
	if n == nil {
		return api.ErrNil
	}
	return n.err
}

// Height: of the last block.
func (n *Node) Height() uint64 {
	if n == nil {
		return 0
	}
	return n.end.height
}

// Root: of the state behind the last block.
func (n *Node) Root() api.Hash {
	if n == nil {
		return api.Hash{}
	}
	return n.end.root
}

// At: the block of a height and its commit. A block above the last one may be stored, where the node has halted as it was committed.
func (n *Node) At(h uint64) (api.Block, api.Commit, bool) {
	if n == nil || h > n.end.height {
		return api.Block{}, api.Commit{}, false
	}
	return n.stored(h)
}

// Receipts: of the block of a height, which is carried out again.
func (n *Node) Receipts(h uint64) []api.Receipt {
	b, _, there := n.At(h)
	if !there {
		return nil
	}
	return tx.Block(state.Open(b.State, n.told), n.around(b), b.Txs)
}

// State: behind the last block, for looking.
func (n *Node) State() *state.State {
	if n == nil {
		return nil
	}
	return state.Open(n.end.root, n.told)
}

// Pool: the transactions that wait.
func (n *Node) Pool() [][]byte {
	if n == nil {
		return nil
	}
	txs := make([][]byte, 0, len(n.pool))
	for _, w := range n.pool {
		txs = append(txs, bytes.Clone(w.bytes))
	}
	return txs
}
