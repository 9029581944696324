package trie_test

import (
	"encoding/hex"
	"fmt"
	"maps"
	"slices"
	"strings"
	"testing"

	"conclave/api"
	"conclave/keccak"
	"conclave/rlp"
	"conclave/trie"
)

// is: an error as it should be.
func is(t *testing.T, what string, got, want api.Errno) {
	t.Helper()
	if got != want {
		t.Errorf("%s: %d, not %d", what, got, want)
	}
}

// unhex: bytes told in hex, spaces between them.
func unhex(t *testing.T, s string) []byte {
	t.Helper()
	b, err := hex.DecodeString(strings.ReplaceAll(s, " ", ""))
	if err != nil {
		t.Fatal(err)
	}
	return b
}

// store: nodes by their hashes, and which of them were asked for.
type store struct {
	nodes map[api.Hash][]byte
	asked map[api.Hash]int
}

func newStore(nodes map[api.Hash][]byte) *store {
	s := &store{nodes: map[api.Hash][]byte{}, asked: map[api.Hash]int{}}
	maps.Copy(s.nodes, nodes)
	return s
}

// tell: what a tree is opened with.
func (s *store) tell(h api.Hash) ([]byte, bool) {
	s.asked[h]++
	b, ok := s.nodes[h]
	return b, ok
}

// open: a tree over the store.
func (s *store) open(root api.Hash) *trie.Tree { return trie.Open(root, s.tell) }

// add: nodes that were told, checked: their hashes are theirs, and none is told twice.
func (s *store) add(t *testing.T, l []trie.Node) {
	t.Helper()
	seen := map[api.Hash]int{}
	for _, n := range l {
		if n.Hash != keccak.Sum(n.Enc) {
			t.Errorf("a node with another one's hash: %x, %x", n.Hash, n.Enc)
		}
		if seen[n.Hash]++; seen[n.Hash] > 1 {
			t.Errorf("told twice: %x", n.Enc)
		}
		s.nodes[n.Hash] = n.Enc
	}
}

// made: a tree of nothing but these pairs.
func made(t *testing.T, pairs map[string]string) *trie.Tree {
	t.Helper()
	a := trie.Open(trie.Empty(), nil)
	for _, key := range slices.Sorted(maps.Keys(pairs)) {
		is(t, "Put", a.Put([]byte(key), []byte(pairs[key])), api.OK)
	}
	return a
}

// told: pairs as a text.
func told(l []trie.Pair) string {
	var out []string
	for _, p := range l {
		out = append(out, fmt.Sprintf("%x=%x", p.Key, p.Val))
	}
	return strings.Join(out, " ")
}

// wanted: what told says of these pairs, if All is right.
func wanted(pairs map[string]string) string {
	var out []string
	for _, key := range slices.Sorted(maps.Keys(pairs)) {
		out = append(out, fmt.Sprintf("%x=%x", key, pairs[key]))
	}
	return strings.Join(out, " ")
}

// has: a tree with these pairs, by All, Get and Root.
func has(t *testing.T, what string, a *trie.Tree, pairs map[string]string) {
	t.Helper()
	all, err := a.All()
	is(t, what+": All", err, api.OK)
	if told(all) != wanted(pairs) {
		t.Errorf("%s: All: %.300s, not %.300s", what, told(all), wanted(pairs))
	}
	for key, val := range pairs {
		got, ok, err := a.Get([]byte(key))
		if string(got) != val || !ok || err != api.OK {
			t.Errorf("%s: Get of %x: %.99x, %v, %d", what, key, got, ok, err)
		}
	}
	hasRoot(t, what, a, pairs)
}

// hasRoot: a tree whose root is what the chapter's words say of these pairs.
func hasRoot(t *testing.T, what string, a *trie.Tree, pairs map[string]string) {
	t.Helper()
	got, _ := a.Root()
	if want, _ := plainRoot(pairs); got != want {
		t.Errorf("%s: Root: %x, not %x", what, got, want)
	}
}

// lacks: keys that have no value.
func lacks(t *testing.T, what string, a *trie.Tree, keys ...string) {
	t.Helper()
	for _, key := range keys {
		if val, ok, err := a.Get([]byte(key)); len(val) != 0 || ok || err != api.OK {
			t.Errorf("%s: Get of %x: %x, %v, %d", what, key, val, ok, err)
		}
	}
}

// enc: the encoding of an item.
func enc(t *testing.T, x rlp.Item) []byte {
	t.Helper()
	b, err := rlp.Encode(x)
	is(t, "Encode", err, api.OK)
	return b
}

// keccakOf: the hash of what stands ahead of the bytes of "spare".
func keccakOf(b []byte) api.Hash { return keccak.Sum(b[:len(b)-len("spare")]) }

// long: a value so long that no node with it stands in another one.
func long(s string) string { return strings.Repeat(s, 40) }
