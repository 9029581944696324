package node

import (
	"iter"

	"conclave/api"
	"conclave/chain"
	"conclave/evm"
	"conclave/kv"
	"conclave/state"
	"conclave/trie"
	"conclave/tx"
)

// What the store's keys begin with.
const (
	blockKey  = 'b' // behind it a height
	commitKey = 'c' // likewise
	nodeKey   = 'n' // behind it a hash
	endKey    = 'h' // alone
)

const (
	heightSize = 8
	changeHead = 6                 // bytes of a batch's record for each change, beside its key and its value
	mostBatch  = api.MaxRecord - 1 // the log has a byte ahead of a batch's
)

// heightBytes: of a number, the highest first.
func heightBytes(height uint64) []byte {
	b := make([]byte, heightSize)
	for i := range b {
		b[i] = byte(height >> (8 * (heightSize - 1 - i)))
	}
	return b
}

// heightOf: the number of heightSize bytes.
func heightOf(b []byte) uint64 {
	height := uint64(0)
	for _, c := range b {
		height = height<<8 | uint64(c)
	}
	return height
}

func heightKey(kind byte, height uint64) []byte { return append([]byte{kind}, heightBytes(height)...) }

func hashKey(h api.Hash) []byte { return append([]byte{nodeKey}, h[:]...) }

// told: what state told for a hash.
func (n *Node) told(h api.Hash) ([]byte, bool) { return n.store.Get(hashKey(h)) }

// around: what is around the transactions of a block that follows.
func (n *Node) around(b api.Block) evm.Env {
	return evm.Env{
		Chain:    n.genesis.Chain,
		Height:   b.Height,
		Time:     b.Height,
		Proposer: tx.Sender(n.genesis.Keys[b.Proposer]),
	}
}

// behind: where the chain ends with a block that follows, and what state tells for that.
func (n *Node) behind(b api.Block, told func(h api.Hash) ([]byte, bool)) (tip, []trie.Node, api.Errno) {
	s := state.Open(b.State, told)
	tx.Block(s, n.around(b), b.Txs)
	root, nodes := s.Root()
	return tip{height: b.Height, hash: chain.Hash(b), root: root}, nodes, s.Err()
}

// add: a block that follows, with a commit that holds for it, is the chain's last one. The store has both ahead of anything that comes of them.
func (n *Node) add(b api.Block, c api.Commit) api.Errno {
	block, _ := chain.EncodeBlock(b) // it is right
	votes, _ := chain.EncodeCommit(c)
	err := n.store.Put([]kv.Change{
		{Key: heightKey(blockKey, b.Height), Val: block},
		{Key: heightKey(commitKey, b.Height), Val: votes},
	})
	if err != api.OK {
		return err
	}
	end, nodes, err := n.behind(b, n.told)
	if err != api.OK {
		return err
	}
	return n.carryOut(end, nodes)
}

// carryOut: the last block that is stored is carried out: the chain ends there.
func (n *Node) carryOut(end tip, nodes []trie.Node) api.Errno {
	if err := n.save(nodes); err != api.OK {
		return err
	}
	val := append(heightBytes(end.height), end.root[:]...)
	if err := n.store.Put([]kv.Change{{Key: []byte{endKey}, Val: val}}); err != api.OK {
		return err
	}
	n.end = end
	return api.OK
}

// save: the store has what state told.
func (n *Node) save(nodes []trie.Node) api.Errno {
	for batch := range n.batches(nodes) {
		if err := n.store.Put(batch); err != api.OK {
			return err
		}
	}
	return api.OK
}

// batches: of nodes that the store does not have yet, each as great as its log's records may be. Codes come again whenever their accounts have changed, so they are not stored again.
func (n *Node) batches(nodes []trie.Node) iter.Seq[[]kv.Change] {
	return func(yield func([]kv.Change) bool) {
		var batch []kv.Change
		size := 0
		for _, node := range nodes {
			if _, there := n.told(node.Hash); there {
				continue
			}
			change := kv.Change{Key: hashKey(node.Hash), Val: node.Enc}
			more := changeHead + len(change.Key) + len(change.Val)
			if size+more > mostBatch {
				if !yield(batch) {
					return
				}
				batch, size = nil, 0
			}
			batch, size = append(batch, change), size+more
		}
		if len(batch) > 0 {
			yield(batch)
		}
	}
}
