package trie

import (
	"bytes"
	"slices"

	"conclave/api"
)

// find: the value that a node has for a path; nil, if there is none.
func (t *Tree) find(n node, path []byte) []byte {
	switch n := n.(type) {
	case hashed:
		return t.find(t.load(n), path)
	case *leaf:
		if bytes.Equal(path, n.path) {
			return n.val
		}
	case *extension:
		if rest, along := bytes.CutPrefix(path, n.path); along {
			return t.find(n.next, rest)
		}
	case *branch:
		if len(path) == 0 {
			return n.val
		}
		return t.find(n.next[path[0]], path[1:])
	}
	return nil
}

// gathered: all, and behind it the pairs of a node that stands behind a path. Nodes that lead beyond the longest key, as they do where one is told to stand within itself, are no tree's.
func (t *Tree) gathered(all []Pair, n node, path []byte) []Pair {
	if len(path) > mostNibbles {
		panic(api.ErrGone)
	}
	switch n := n.(type) {
	case hashed:
		return t.gathered(all, t.load(n), path)
	case *leaf:
		return append(all, pair(slices.Concat(path, n.path), n.val))
	case *extension:
		return t.gathered(all, n.next, slices.Concat(path, n.path))
	case *branch:
		if len(n.val) > 0 { // ahead of all that the same nibbles go on from
			all = append(all, pair(path, n.val))
		}
		for i, next := range n.children() {
			all = t.gathered(all, next, append(slices.Clip(path), i))
		}
	}
	return all
}

// pair: of so many nibbles, if they are a key's.
func pair(path, val []byte) Pair {
	if len(path)%2 == 1 || len(path) > mostNibbles {
		panic(api.ErrGone)
	}
	return Pair{Key: joined(path), Val: bytes.Clone(val)}
}
