package trie

import (
	"conclave/api"
	"conclave/rlp"
)

// load: the node of a hash, as it is told. Each told encoding is looked at whole and for itself: is there a tree, of keys and values that Put takes, that has this node?
func (t *Tree) load(n hashed) node {
	if t.nodes == nil {
		panic(api.ErrGone)
	}
	enc, told := t.nodes(api.Hash(n))
	if !told {
		panic(api.ErrGone)
	}
	x, err := rlp.Decode(enc)
	if err != api.OK {
		panic(api.ErrGone)
	}
	return readNode(x)
}

// readNode: a leaf, an extension or a branch.
func readNode(x rlp.Item) node {
	switch len(x.Items) {
	case 2:
		return readShort(x.Items[0], x.Items[1])
	case 17:
		return readBranch(x.Items)
	}
	panic(api.ErrGone)
}

// readShort: a leaf or an extension, of its path and what stands behind it.
func readShort(path, rest rlp.Item) node {
	nibbles, isLeaf, err := Expand(path.Bytes) // a list has no bytes, and no bytes are no path
	if err != api.OK || len(nibbles) > mostNibbles {
		panic(api.ErrGone)
	}
	if isLeaf {
		return readLeaf(nibbles, rest)
	}
	return readExtension(nibbles, rest)
}

func readLeaf(path []byte, x rlp.Item) node {
	val := readVal(x)
	if len(val) == 0 {
		panic(api.ErrGone)
	}
	return &leaf{path, val}
}

// readExtension: what it leads to can be seen here where it is no hash: it is a branch then, since its path is as long as can be.
func readExtension(path []byte, x rlp.Item) node {
	next := readReference(x)
	switch next.(type) {
	case *branch, hashed:
		if len(path) > 0 {
			return &extension{path, next}
		}
	}
	panic(api.ErrGone)
}

func readBranch(items []rlp.Item) node {
	b := &branch{}
	for i := range b.next {
		b.next[i] = readReference(items[i])
	}
	b.val = readVal(items[len(b.next)])
	if b.many() < 2 {
		panic(api.ErrGone)
	}
	return b
}

// readReference: the node that stands there, its hash, or none.
func readReference(x rlp.Item) node {
	switch {
	case x.List && len(encoding(x)) <= mostInside:
		return readNode(x)
	case x.List:
		panic(api.ErrGone)
	case len(x.Bytes) == 0:
		return nil
	case len(x.Bytes) == len(hashed{}):
		return hashed(x.Bytes)
	}
	panic(api.ErrGone)
}

// readVal: a value, or the empty bytes.
func readVal(x rlp.Item) []byte {
	if x.List || len(x.Bytes) > mostVal {
		panic(api.ErrGone)
	}
	return x.Bytes
}
