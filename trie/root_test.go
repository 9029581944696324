package trie_test

import (
	"fmt"
	"maps"
	"slices"
	"strings"
	"testing"

	"conclave/api"
	"conclave/rlp"
	"conclave/trie"
)

// P1003: roots that other programs have told of the same pairs.
func TestRootKnown(t *testing.T) {
	for _, c := range []struct {
		pairs map[string]string
		want  string
	}{
		{map[string]string{"A": strings.Repeat("a", 50)}, "d23786fb4a010da3ce639d66d5e904a11dbc02746d1ce25029e53290cabf28ab"},
		{map[string]string{"doe": "reindeer", "dog": "puppy", "dogglesworth": "cat"}, "8aad789dff2f538bca5d8ea56e8abe10f4c7ba3a5dea95fea4cd6e7c3a1168d3"},
		{map[string]string{"do": "verb", "dog": "puppy", "doge": "coin", "horse": "stallion"}, "5991bb8c6514148a29db676a14ac506cd2cd5775ace63c30a4fe457715e9ac84"},
		{map[string]string{"foo": "bar", "food": "bass"}, "17beaa1648bafa633cda809c90c04af50fc8aed3cb40d16efbddee6fdf63c4c3"},
		{map[string]string{"be": "e", "dog": "puppy", "bed": "d"}, "3f67c7a47520f79faa29255d2d3c084a7a6df0453116ed7232ff10277a8be68b"},
		{map[string]string{"test": "test", "te": "testy"}, "8452568af70d8d140f58d941338542f645fcca50094b20f3c3d8c3df49337928"},
		{map[string]string{"\x00\x45": "\x01\x23\x45\x67\x89", "\x45\x00": "\x98\x76\x54\x32\x10"}, "285505fcabe84badc8aa310e2aae17eddc7d120aabec8a476902c8184b3a3503"},
	} {
		if got, _ := made(t, c.pairs).Root(); fmt.Sprintf("%x", got) != c.want {
			t.Errorf("the root of %q: %x, not %s", c.pairs, got, c.want)
		}
	}
}

// sized: pairs of trees whose inner nodes have encodings of any length about 32 bytes: a leaf, an extension and a branch below a branch, and such at the top.
func sized(n int) []map[string]string {
	v := strings.Repeat("v", n)
	return []map[string]string{
		{"\x10": v},
		{"": v},
		{"\x10": v, "\x20": "w"},
		{"\x10": v, "\x20": v},
		{"\x10": v, "": "w"},
		{"\x10\x01": v, "\x10\x02": "w"},
		{"\x10\x01": v, "\x10\x02": "w", "\x20": "u"},
		{"\x10": v, "\x11": "w", "\x20": "u"},
		{"\x10": v, "\x11": v, "\x20": v, "\x21": v},
		{"\x10": "w", "\x10\x10": v, "\x20": "u"},
		{"\x10": v, "\x10\x10": "w", "\x20": "u"},
		{"\x10\x10": v, "\x10\x20": "w", "\x20\x10": v, "\x20\x20": "w"},
	}
}

// P1003: nodes whose encoding has 31, 32 and 33 bytes, and all about these: they stand in others, or are told by their hash; the root is told whatever its length.
func TestRootSizes(t *testing.T) {
	met := map[int]int{}
	for n := 1; n < 60; n++ {
		for i, pairs := range sized(n) {
			what := fmt.Sprint("value of ", n, ", pairs ", i)
			want, nodes := plainRoot(pairs)
			a := made(t, pairs)
			got, l := a.Root()
			if got != want {
				t.Errorf("%s: %x, not %x", what, got, want)
			}
			s := newStore(nil)
			s.add(t, l)
			if !slices.Equal(hashes(s.nodes), hashes(nodes)) {
				t.Errorf("%s: %d nodes are told, not %d", what, len(s.nodes), len(nodes))
			}
			for _, b := range nodes {
				met[len(b)]++
			}
			has(t, what, s.open(got), pairs)
			for key := range pairs {
				b := s.open(got)
				is(t, what, b.Delete([]byte(key)), api.OK)
				has(t, what+", one deleted", b, plainWith(pairs, key, ""))
			}
		}
	}
	for _, n := range []int{20, 31, 32, 33, 34, 60} {
		if met[n] == 0 {
			t.Errorf("no node has %d bytes", n)
		}
	}
}

// P1003: leaves of 31, 32 and 33 bytes in a branch, byte by byte.
func TestReference(t *testing.T) {
	for n, want := range map[int]int{28: 31, 29: 32, 30: 33} {
		h, l := made(t, map[string]string{"\x10": strings.Repeat("v", n), "\x20": "w"}).Root()
		s := newStore(nil)
		s.add(t, l)
		x, err := rlp.Decode(s.nodes[h])
		is(t, "Decode", err, api.OK)
		inside := x.Items[1]
		if inside.List != (want < 32) || len(l) != 1+want/32 {
			t.Errorf("a leaf of %d bytes: %v, with %d nodes told", want, inside.List, len(l))
		}
		leaf := enc(t, rlp.List(rlp.Str([]byte{0x30}), rlp.Str([]byte(strings.Repeat("v", n)))))
		if len(leaf) != want || !inside.List && string(s.nodes[api.Hash(inside.Bytes)]) != string(leaf) || inside.List && string(enc(t, inside)) != string(leaf) {
			t.Errorf("a leaf of %d bytes is told otherwise: %x", want, leaf)
		}
	}
}

// hashes: of nodes, sorted.
func hashes(nodes map[api.Hash][]byte) []string {
	var out []string
	for h := range nodes {
		out = append(out, string(h[:]))
	}
	slices.Sort(out)
	return out
}

// P1003: a node that stands at several places is told once.
func TestRootOnce(t *testing.T) {
	pairs := map[string]string{}
	for i := range 16 {
		for _, rest := range []string{"\x01", "\x02", "\x33"} {
			pairs[string([]byte{byte(i * 16)})+rest] = long("v" + rest)
		}
	}
	a := made(t, pairs)
	h, l := a.Root()
	s := newStore(nil)
	s.add(t, l)
	if len(l) != 7 { // the root, an extension, two branches, three leaves
		t.Errorf("%d nodes are told", len(l))
	}
	has(t, "opened", s.open(h), pairs)
}

// P1003: the tree goes on behind Root; each Root tells all that was made since Open and is wanted still, and no node that the tree has not.
func TestRootGoesOn(t *testing.T) {
	first := map[string]string{"do": long("1"), "dog": long("2"), "cat": long("3"), "cats": "4"}
	root, nodes := plainRoot(first)
	a := newStore(nodes).open(root)
	if h, _ := a.Root(); h != root {
		t.Errorf("Root of what was opened: %x, not %x", h, root)
	}
	pairs := maps.Clone(first)
	for i, step := range strings.Fields("dog=x horse=long do= doge=long dog= do=long cats=long cat= horse=1 doge= do=1") {
		key, val, _ := strings.Cut(step, "=")
		if val == "long" {
			val = long(fmt.Sprint(i % 10))
		}
		is(t, step, a.Put([]byte(key), []byte(val)), api.OK)
		pairs = plainWith(pairs, key, val)
		want, now := plainRoot(pairs)
		for range 2 { // asked again, it tells the same
			h, l := a.Root()
			if h != want {
				t.Errorf("%s: %x, not %x", step, h, want)
			}
			for _, n := range l {
				if now[n.Hash] == nil {
					t.Errorf("%s: a node is told that the tree has not: %x", step, n.Enc)
				}
			}
			s := newStore(nodes)
			s.add(t, l)
			has(t, step+", opened", s.open(h), pairs)
		}
		has(t, step, a, pairs)
	}
}

// P1004: the root hangs on the pairs alone: all orders of some Puts, with other keys put and deleted between.
func TestOneRoot(t *testing.T) {
	keys := []string{"", "a", "ab", "a\x10", "b", "\x61\x62\x63"}
	for _, val := range []string{"v", long("v")} {
		pairs := map[string]string{}
		for i, key := range keys {
			pairs[key] = val + fmt.Sprint(i)
		}
		want, _ := plainRoot(pairs)
		orders(keys, func(order []string) {
			a := trie.Open(trie.Empty(), nil)
			for i, key := range order {
				other := order[(i+2)%len(order)] + "\x01"
				is(t, "Put", a.Put([]byte(other), []byte(val)), api.OK)
				is(t, "Put", a.Put([]byte(key), []byte("before")), api.OK)
				is(t, "Put", a.Put([]byte(key), []byte(pairs[key])), api.OK)
				if i%2 == 0 {
					is(t, "Delete", a.Delete([]byte(other)), api.OK)
				}
			}
			for i := range order {
				is(t, "Delete", a.Delete([]byte(order[i]+"\x01")), api.OK)
			}
			if got, _ := a.Root(); got != want {
				t.Errorf("%q: %x, not %x", order, got, want)
			}
		})
	}
}

// orders: each order of a list.
func orders(l []string, do func([]string)) {
	var more func(done, rest []string)
	more = func(done, rest []string) {
		if len(rest) == 0 {
			do(done)
		}
		for i, s := range rest {
			more(append(slices.Clip(done), s), slices.Delete(slices.Clone(rest), i, i+1))
		}
	}
	more(nil, l)
}
