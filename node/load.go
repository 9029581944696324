package node

import (
	"conclave/api"
	"conclave/chain"
	"conclave/keccak"
	"conclave/trie"
)

// load: the node is behind the blocks that the store has; what is missing of what state told for the first root, or for the last block, is stored.
func (n *Node) load(g api.Genesis) api.Errno {
	root, first := chain.Start(g)
	n.end = tip{root: root}
	l := loading{Node: n, first: first}
	if !l.all() {
		return api.ErrRot
	}
	if err := n.save(first); err != api.OK {
		return err
	}
	if l.last == nil {
		return api.OK
	}
	return n.carryOut(l.last.end, l.last.nodes)
}

// loading: a node that reads its store, block by block. Nothing is changed there till all of it has shown to be a chain.
type loading struct {
	*Node
	first []trie.Node // what state told for the root without blocks; the store need not have it yet
	last  *uncarried
}

// uncarried: what comes of the last block, if it was stored and not carried out.
type uncarried struct {
	end   tip
	nodes []trie.Node
}

// all: the blocks from the first one on; false: they are no chain.
func (l *loading) all() bool {
	blocks, ok := l.count()
	if !ok {
		return false
	}
	carried, ok := l.carried()
	if !ok || blocks < carried.height || blocks > carried.height+1 {
		return false
	}
	for range blocks {
		if !l.next(carried) {
			return false
		}
	}
	return true
}

// count: how many blocks there are, if each key is one of a chain's. Of which heights they are shows as they are read: if there are so many, no other key is left.
func (l *loading) count() (uint64, bool) {
	var blocks, commits uint64
	for _, c := range l.store.Range(nil, nil) {
		head, rest := c.Key[0], c.Key[1:]
		switch {
		case head == blockKey:
			blocks++
		case head == commitKey:
			commits++
		case head == nodeKey && len(rest) == len(api.Hash{}) && keccak.Sum(c.Val) == api.Hash(rest):
		case head == endKey && len(rest) == 0:
		default:
			return 0, false
		}
	}
	return blocks, blocks == commits
}

// carried: the last block that was carried out, but for its hash.
func (l *loading) carried() (tip, bool) {
	val, there := l.store.Get([]byte{endKey})
	if !there {
		return tip{}, true
	}
	if len(val) != heightSize+len(api.Hash{}) {
		return tip{}, false
	}
	t := tip{height: heightOf(val[:heightSize]), root: api.Hash(val[heightSize:])}
	return t, t.height > 0
}

// next: the block of the current height is one of a chain. It is carried out again, so that what the store has of its state is known to be that.
func (l *loading) next(carried tip) bool {
	b, c, ok := l.stored(l.height())
	if !ok || l.refuses(b, c) != api.OK {
		return false
	}
	end, nodes, err := l.behind(b, l.tells)
	switch {
	case err != api.OK:
		return false
	case end.height > carried.height:
		l.last = &uncarried{end: end, nodes: nodes}
		return true
	case end.height == carried.height && end.root != carried.root, !l.has(nodes):
		return false
	}
	l.end = end
	return true
}

// tells: what state told for a hash, for the first root too.
func (l *loading) tells(h api.Hash) ([]byte, bool) {
	for _, node := range l.first {
		if node.Hash == h {
			return node.Enc, true
		}
	}
	return l.told(h)
}

// has: all these nodes were stored.
func (l *loading) has(nodes []trie.Node) bool {
	for _, node := range nodes {
		if _, there := l.tells(node.Hash); !there {
			return false
		}
	}
	return true
}

// stored: the block of a height and its commit.
func (n *Node) stored(height uint64) (api.Block, api.Commit, bool) {
	block, _ := n.store.Get(heightKey(blockKey, height)) // nothing is no block
	votes, _ := n.store.Get(heightKey(commitKey, height))
	b, wrongBlock := chain.DecodeBlock(block)
	c, wrongCommit := chain.DecodeCommit(votes)
	if wrongBlock != api.OK || wrongCommit != api.OK {
		return api.Block{}, api.Commit{}, false
	}
	return b, c, true
}
