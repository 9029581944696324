package trie

import "bytes"

// changed: the node for the pairs of n, but that the path has this value, or none, if it is empty. Where that is so already it is n itself.
func (t *Tree) changed(n node, path, val []byte) node {
	switch n := n.(type) {
	case hashed:
		known := t.load(n)
		if now := t.changed(known, path, val); now != known {
			return now
		}
		return n
	case *leaf:
		return n.changed(path, val)
	case *extension:
		return t.changedExtension(n, path, val)
	case *branch:
		return t.changedBranch(n, path, val)
	}
	if len(val) == 0 {
		return nil
	}
	return &leaf{path, val}
}

func (n *leaf) changed(path, val []byte) node {
	same := bytes.Equal(path, n.path)
	switch {
	case same && bytes.Equal(val, n.val), !same && len(val) == 0:
		return n
	case same && len(val) == 0:
		return nil
	case same:
		return &leaf{path, val}
	}
	at := alike(path, n.path)
	b := &branch{}
	b.lay(n.path[at:], n.val)
	b.lay(path[at:], val)
	return extended(path[:at], b)
}

func (t *Tree) changedExtension(n *extension, path, val []byte) node {
	rest, along := bytes.CutPrefix(path, n.path)
	switch {
	case along:
		next := t.changed(n.next, rest, val)
		if next == n.next {
			return n
		}
		return extended(n.path, next)
	case len(val) == 0:
		return n
	}
	at := alike(path, n.path)
	b := &branch{}
	b.next[n.path[at]] = extended(n.path[at+1:], n.next)
	b.lay(path[at:], val)
	return extended(path[:at], b)
}

func (t *Tree) changedBranch(n *branch, path, val []byte) node {
	now := *n
	if len(path) == 0 {
		if bytes.Equal(val, n.val) {
			return n
		}
		now.val = val
		return t.shrunk(&now)
	}
	i := path[0]
	now.next[i] = t.changed(n.next[i], path[1:], val)
	if now.next[i] == n.next[i] {
		return n
	}
	return t.shrunk(&now)
}

// lay: one pair more, that has a nibble, or a lack of them, of its own.
func (n *branch) lay(path, val []byte) {
	if len(path) == 0 {
		n.val = val
		return
	}
	n.next[path[0]] = &leaf{path[1:], val}
}

// shrunk: the node for the pairs of a branch that may have lost one.
func (t *Tree) shrunk(n *branch) node {
	if n.many() > 1 {
		return n
	}
	for i, next := range n.children() {
		return extended([]byte{i}, t.below(next))
	}
	return &leaf{val: n.val}
}

// below: a node with which a path ahead of it can be joined: a hash might hide a leaf or an extension. A branch stays as it is told, since it is not made anew.
func (t *Tree) below(n node) node {
	if h, told := n.(hashed); told {
		known := t.load(h)
		if _, joins := known.(*branch); !joins {
			return known
		}
	}
	return n
}
