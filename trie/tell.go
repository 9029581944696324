package trie

import (
	"conclave/api"
	"conclave/keccak"
	"conclave/rlp"
)

const mostInside = 31 // bytes of the encoding of a node that stands in another one

// teller: nodes that have to be told, each once, though a tree may have one at several places.
type teller struct {
	nodes []Node
	known map[api.Hash]struct{}
}

// summed: the root of a tree, and what has to be told for it: all that is in memory.
func summed(root node) (api.Hash, []Node) {
	switch root := root.(type) {
	case nil:
		return Empty(), nil
	case hashed:
		return api.Hash(root), nil
	}
	t := &teller{known: map[api.Hash]struct{}{}}
	h := t.tell(encoding(root.item(t.refer)))
	return h, t.nodes
}

// refer: the reference of a node; what has to be told for it is.
func (t *teller) refer(n node) rlp.Item {
	x := n.item(t.refer)
	if _, told := n.(hashed); told {
		return x
	}
	enc := encoding(x)
	if len(enc) <= mostInside {
		return x
	}
	h := t.tell(enc)
	return rlp.Str(h[:])
}

// tell: the hash of a node that has to be told.
func (t *teller) tell(enc []byte) api.Hash {
	h := keccak.Sum(enc)
	if _, known := t.known[h]; !known {
		t.known[h] = struct{}{}
		t.nodes = append(t.nodes, Node{Hash: h, Enc: enc})
	}
	return h
}

// encoding: of the item of a tree's node. There is no error: values and paths have limits that keep it far below MaxRlp.
func encoding(x rlp.Item) []byte {
	b, _ := rlp.Encode(x)
	return b
}
