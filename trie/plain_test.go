package trie_test

import (
	"maps"
	"slices"
	"strings"

	"conclave/api"
	"conclave/keccak"
	"conclave/rlp"
)

// half: a pair whose key is told by its nibbles.
type half struct{ nibbles, val string }

func plainNibbles(key string) string {
	out := ""
	for i := range len(key) {
		out += string([]byte{key[i] / 16, key[i] % 16})
	}
	return out
}

func plainHalves(pairs map[string]string) []half {
	var l []half
	for key, val := range pairs {
		l = append(l, half{plainNibbles(key), val})
	}
	slices.SortFunc(l, func(a, b half) int { return strings.Compare(a.nibbles, b.nibbles) })
	return l
}

func plainCompact(nibbles string, leaf bool) []byte {
	head := map[bool]byte{false: 0x00, true: 0x20}[leaf]
	if len(nibbles)%2 == 1 {
		head += 0x10 + nibbles[0]
		nibbles = nibbles[1:]
	}
	out := []byte{head}
	for ; nibbles != ""; nibbles = nibbles[2:] {
		out = append(out, nibbles[0]*16+nibbles[1])
	}
	return out
}

// plainSame: the nibbles that all begin with, as many as can be.
func plainSame(l []half) string {
	same := l[0].nibbles
	for _, p := range l {
		for !strings.HasPrefix(p.nibbles, same) {
			same = same[:len(same)-1]
		}
	}
	return same
}

// plainCut: the pairs that begin with these nibbles, without them.
func plainCut(l []half, nibbles string) []half {
	var out []half
	for _, p := range l {
		if rest, ok := strings.CutPrefix(p.nibbles, nibbles); ok {
			out = append(out, half{rest, p.val})
		}
	}
	return out
}

// plainNode: the chapter's words said over again: the node for pairs. What is told by its hash stands in nodes.
func plainNode(l []half, nodes map[api.Hash][]byte) rlp.Item {
	if len(l) == 0 {
		return rlp.Str(nil)
	}
	if len(l) == 1 {
		return rlp.List(rlp.Str(plainCompact(l[0].nibbles, true)), rlp.Str([]byte(l[0].val)))
	}
	if same := plainSame(l); same != "" {
		return rlp.List(rlp.Str(plainCompact(same, false)), plainReference(plainCut(l, same), nodes))
	}
	branch := make([]rlp.Item, 17)
	for i := range 16 {
		branch[i] = plainReference(plainCut(l, string([]byte{byte(i)})), nodes)
	}
	for _, p := range l {
		if p.nibbles == "" {
			branch[16] = rlp.Str([]byte(p.val))
		}
	}
	return rlp.List(branch...)
}

func plainReference(l []half, nodes map[api.Hash][]byte) rlp.Item {
	x := plainNode(l, nodes)
	b, err := rlp.Encode(x)
	if err != api.OK {
		panic(err)
	}
	if len(b) < 32 {
		return x
	}
	h := keccak.Sum(b)
	nodes[h] = b
	return rlp.Str(h[:])
}

// plainRoot: the root of pairs, and all nodes by their hashes.
func plainRoot(pairs map[string]string) (api.Hash, map[api.Hash][]byte) {
	nodes := map[api.Hash][]byte{}
	b, err := rlp.Encode(plainNode(plainHalves(pairs), nodes))
	if err != api.OK {
		panic(err)
	}
	h := keccak.Sum(b)
	if len(pairs) > 0 {
		nodes[h] = b
	}
	return h, nodes
}

// plainHash: of the node for pairs, if it is told by one.
func plainHash(l []half, root bool) []api.Hash {
	b, _ := rlp.Encode(plainNode(l, map[api.Hash][]byte{}))
	if len(l) == 0 || len(b) < 32 && !root {
		return nil
	}
	return []api.Hash{keccak.Sum(b)}
}

// plainPath: the hashes of the nodes along a path, and, where the path is taken out and a branch is left with one child, that child's.
func plainPath(l []half, path string, root, out bool) []api.Hash {
	hashes := plainHash(l, root)
	if len(l) < 2 {
		return hashes
	}
	if same := plainSame(l); same != "" {
		if rest, ok := strings.CutPrefix(path, same); ok {
			hashes = append(hashes, plainPath(plainCut(l, same), rest, false, out)...)
		}
		return hashes
	}
	if path != "" {
		hashes = append(hashes, plainPath(plainCut(l, path[:1]), path[1:], false, out)...)
	}
	left := slices.DeleteFunc(slices.Clone(l), func(p half) bool { return p.nibbles == path })
	if out && len(left) < len(l) {
		if same := plainSame(left); same != "" {
			hashes = append(hashes, plainHash(plainCut(left, same[:1]), false)...)
		}
	}
	return hashes
}

// plainWith: the pairs, but that a key has a value, or none, if it is empty.
func plainWith(pairs map[string]string, key, val string) map[string]string {
	out := maps.Clone(pairs)
	if val == "" {
		delete(out, key)
	} else {
		out[key] = val
	}
	return out
}
