package trie

import (
	"iter"
	"slices"

	"conclave/api"
	"conclave/rlp"
)

// node: a *leaf, an *extension, a *branch, or what is just known by its hash; nil is none. Pointers, so that one that a change left alone is known by being the same.
type node interface {
	// item: the node with its references as refer makes them.
	item(refer func(n node) rlp.Item) rlp.Item
}

type leaf struct{ path, val []byte }

type extension struct {
	path []byte // at least one nibble
	next node
}

type branch struct {
	next [16]node
	val  []byte
}

type hashed api.Hash

func (n *leaf) item(func(node) rlp.Item) rlp.Item {
	return rlp.List(rlp.Str(compact(n.path, true)), rlp.Str(n.val))
}

func (n *extension) item(refer func(node) rlp.Item) rlp.Item {
	return rlp.List(rlp.Str(compact(n.path, false)), refer(n.next))
}

func (n *branch) item(refer func(node) rlp.Item) rlp.Item {
	items := make([]rlp.Item, len(n.next)+1)
	for i, next := range n.children() {
		items[i] = refer(next)
	}
	items[len(n.next)] = rlp.Str(n.val)
	return rlp.List(items...)
}

func (n hashed) item(func(node) rlp.Item) rlp.Item { return rlp.Str(n[:]) }

// children: those that there are, with their nibbles.
func (n *branch) children() iter.Seq2[byte, node] {
	return func(yield func(byte, node) bool) {
		for i, next := range n.next {
			if next != nil && !yield(byte(i), next) {
				return
			}
		}
	}
}

// many: how many children and values a branch has together.
func (n *branch) many() int {
	many := min(len(n.val), 1)
	for range n.children() {
		many++
	}
	return many
}

// extended: the node for the pairs of n with a path ahead of their nibbles.
func extended(path []byte, n node) node {
	if len(path) == 0 {
		return n
	}
	switch n := n.(type) {
	case nil:
		return nil
	case *leaf:
		return &leaf{slices.Concat(path, n.path), n.val}
	case *extension:
		return &extension{slices.Concat(path, n.path), n.next}
	}
	return &extension{path, n}
}
