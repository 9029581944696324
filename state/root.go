package state

import (
	"bytes"
	"cmp"
	"maps"
	"slices"

	"conclave/api"
	"conclave/keccak"
	"conclave/trie"
	"conclave/word"
)

// teller: what has to be told for a root, each once, though storages may have nodes, and accounts codes, in common.
type teller struct {
	state *State
	nodes []trie.Node
	known map[api.Hash]struct{}
}

// Root: the root, and what has to be told for it.
func (s *State) Root() (api.Hash, []trie.Node) {
	if s.broken() {
		return api.Hash{}, nil
	}
	t := &teller{state: s, known: map[api.Hash]struct{}{}}
	root := t.changed(s.root, t.accounts())
	if s.broken() {
		return api.Hash{}, nil
	}
	return root, t.nodes
}

// accounts: what the accounts that were set change in the state's tree.
func (t *teller) accounts() []trie.Pair {
	slots := t.state.slotChanges()
	var changes []trie.Pair
	for _, a := range slices.SortedFunc(maps.Keys(t.state.accounts), compareAddrs) {
		changes = append(changes, change(a[:], t.account(t.state.accounts[a], slots[a])))
	}
	return changes
}

// account: the node of an account, nothing of an empty one; its code and its storage are told.
func (t *teller) account(acc account, slots []trie.Pair) []byte {
	if acc.empty() {
		return nil
	}
	if len(acc.code) > 0 {
		t.tell(trie.Node{Hash: acc.codeHash, Enc: bytes.Clone(acc.code)})
	}
	return acc.node(t.changed(acc.storage, slots))
}

// slotChanges: what the slots that were set change in the storage of each account.
func (s *State) slotChanges() map[api.Addr][]trie.Pair {
	changes := map[api.Addr][]trie.Pair{}
	for p, v := range s.slots {
		changes[p.addr] = append(changes[p.addr], change(word.Bytes(p.key), slotValue(v)))
	}
	return changes
}

// change: a tree has this value, or none, if it is empty, for the hash of these bytes.
func change(of, val []byte) trie.Pair {
	key := keccak.Sum(of)
	return trie.Pair{Key: key[:], Val: val}
}

// changed: the root of a tree with other values; what has to be told for it is. Keys lose their values once the others have theirs: so no child is wanted of a branch that is left with one just between two changes.
func (t *teller) changed(root api.Hash, changes []trie.Pair) api.Hash {
	slices.SortFunc(changes, compareChanges)
	tree := trie.Open(root, t.state.nodes)
	for _, c := range changes {
		if tree.Put(c.Key, c.Val) != api.OK {
			t.state.err = api.ErrGone
			return api.Hash{}
		}
	}
	h, nodes := tree.Root()
	t.tell(nodes...)
	return h
}

func (t *teller) tell(nodes ...trie.Node) {
	for _, n := range nodes {
		if _, known := t.known[n.Hash]; !known {
			t.known[n.Hash] = struct{}{}
			t.nodes = append(t.nodes, n)
		}
	}
}

func compareAddrs(a, b api.Addr) int { return bytes.Compare(a[:], b[:]) }

// compareChanges: those with values first.
func compareChanges(a, b trie.Pair) int {
	return cmp.Or(cmp.Compare(min(len(b.Val), 1), min(len(a.Val), 1)), bytes.Compare(a.Key, b.Key))
}
