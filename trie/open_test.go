package trie_test

import (
	"bytes"
	"fmt"
	"strings"
	"testing"

	"conclave/api"
	"conclave/rlp"
	"conclave/trie"
)

// str, list: items.
func str(s string) rlp.Item           { return rlp.Str([]byte(s)) }
func list(items ...rlp.Item) rlp.Item { return rlp.List(items...) }

// branch: a branch with these items at these nibbles; 16 is the value.
func branch(at map[int]rlp.Item) rlp.Item {
	items := make([]rlp.Item, 17)
	for i, x := range at {
		items[i] = x
	}
	return rlp.List(items...)
}

// hash: the bytes of a hash that just begins so.
func hash(c byte) rlp.Item {
	h := api.Hash{c}
	return rlp.Str(h[:])
}

// only: nodes that are told whatever their hash is: by the first byte of the hash that is asked for.
func only(t *testing.T, at map[byte]rlp.Item) func(api.Hash) ([]byte, bool) {
	t.Helper()
	told := map[byte][]byte{}
	for c, x := range at {
		told[c] = enc(t, x)
	}
	return func(h api.Hash) ([]byte, bool) {
		b, ok := told[h[0]]
		return b, ok
	}
}

// P1002: Open asks for nothing, nor does Root; of a nil function nothing is told.
func TestOpenAsksNothing(t *testing.T) {
	pairs := map[string]string{"do": long("1"), "dog": long("2")}
	root, nodes := plainRoot(pairs)
	s := newStore(nodes)
	a := s.open(root)
	h, _ := a.Root()
	if h != root || len(s.asked) != 0 {
		t.Errorf("Open and Root: %x, %d asked", h, len(s.asked))
	}
	if trie.Open(root, nil) == nil || trie.Open(api.Hash{}, nil) == nil {
		t.Error("Open gives no tree")
	}
	a.Get([]byte("do"))
	if len(s.asked) == 0 {
		t.Error("Get asks for nothing")
	}
	b := trie.Open(trie.Empty(), func(api.Hash) ([]byte, bool) { t.Error("asked of an empty tree"); return nil, false })
	has(t, "no pairs", b, nil)
	is(t, "Put", b.Put([]byte("a"), []byte("1")), api.OK)
	has(t, "one pair", b, map[string]string{"a": "1"})
}

// gone: all calls with a key say ErrGone, All too, and the tree is as it was.
func gone(t *testing.T, what string, a *trie.Tree, key string) {
	t.Helper()
	before, nodes := a.Root()
	val, ok, err := a.Get([]byte(key))
	if len(val) != 0 || ok || err != api.ErrGone {
		t.Errorf("%s: Get: %x, %v, %d", what, val, ok, err)
	}
	is(t, what+": Put", a.Put([]byte(key), []byte("v")), api.ErrGone)
	is(t, what+": Put of nothing", a.Put([]byte(key), nil), api.ErrGone)
	is(t, what+": Delete", a.Delete([]byte(key)), api.ErrGone)
	all, err := a.All()
	is(t, what+": All", err, api.ErrGone)
	if len(all) != 0 {
		t.Errorf("%s: All: %s", what, told(all))
	}
	if after, l := a.Root(); after != before || len(l) != len(nodes) {
		t.Errorf("%s: Root: %x, %d nodes, not %x, %d", what, after, len(l), before, len(nodes))
	}
}

// wrong: items that are no node of a tree.
func wrong() map[string]rlp.Item {
	leaf := list(str("\x20"), str("v"))
	out := map[string]rlp.Item{
		"the empty bytes":                      str(""),
		"a byte":                               str("\x01"),
		"bytes":                                str("dog"),
		"a hash":                               hash(9),
		"a path that is a list":                list(list(), str("v")),
		"a path that is a list of a path":      list(list(str("\x20")), str("v")),
		"a leaf without a value":               list(str("\x20"), str("")),
		"a leaf whose value is a list":         list(str("\x20"), list(str("v"))),
		"a leaf whose value is a node":         list(str("\x20"), leaf),
		"a leaf with too long a value":         list(str("\x20"), str(strings.Repeat("v", 8193))),
		"a leaf with too long a path":          list(str("\x20"+strings.Repeat("p", 65)), str("v")),
		"an extension without nibbles":         list(str("\x00"), hash(9)),
		"an extension to none":                 list(str("\x11"), str("")),
		"an extension to bytes":                list(str("\x11"), str("dog")),
		"an extension to 31 bytes":             list(str("\x11"), str(strings.Repeat("h", 31))),
		"an extension to 33 bytes":             list(str("\x11"), str(strings.Repeat("h", 33))),
		"an extension to a leaf":               list(str("\x11"), leaf),
		"an extension to the empty list":       list(str("\x11"), list()),
		"an extension to an extension":         list(str("\x11"), list(str("\x11"), branch(map[int]rlp.Item{1: leaf, 2: leaf}))),
		"an extension with too long a path":    list(str("\x00"+strings.Repeat("p", 65)), hash(9)),
		"an extension to a branch of 32 bytes": list(str("\x11"), branch(map[int]rlp.Item{1: leaf, 2: list(str("\x20"), str(strings.Repeat("v", 10)))})),
		"a branch with nothing":                branch(nil),
		"a branch with a child alone":          branch(map[int]rlp.Item{3: hash(9)}),
		"a branch with a value alone":          branch(map[int]rlp.Item{16: str("v")}),
		"a branch with a value that is a list": branch(map[int]rlp.Item{3: leaf, 4: leaf, 16: list()}),
		"a branch with too long a value":       branch(map[int]rlp.Item{3: leaf, 16: str(strings.Repeat("v", 8193))}),
	}
	for i := range 16 {
		for what, x := range map[string]rlp.Item{
			"bytes": str("dog"), "a byte": str("\x00"), "31 bytes": str(strings.Repeat("h", 31)), "33 bytes": str(strings.Repeat("h", 33)),
			"the empty list": list(), "no node": list(str("v")), "a leaf without a value": list(str("\x20"), str("")),
			"a node of 32 bytes": list(str("\x20"), str(strings.Repeat("v", 29))), "an extension without nibbles": list(str("\x00"), branch(map[int]rlp.Item{0: leaf, 1: leaf})),
		} {
			out[fmt.Sprint("a branch with ", what, " at ", i)] = branch(map[int]rlp.Item{i: x, (i + 1) % 16: leaf, (i + 2) % 16: leaf, 16: str("v")})
		}
	}
	for n := range 20 {
		if n != 2 && n != 17 {
			items := make([]rlp.Item, n)
			for i := range items {
				items[i] = str("\x20")
			}
			out[fmt.Sprint("a list of ", n)] = list(items...)
		}
	}
	for head := range 256 {
		if head != 0 && head>>4 != 1 && head != 0x20 && head>>4 != 3 {
			out[fmt.Sprint("a path with the head ", head)] = list(rlp.Str([]byte{byte(head)}), hash(9))
			out[fmt.Sprint("a longer path with the head ", head)] = list(rlp.Str([]byte{byte(head), 0}), hash(9))
		}
	}
	out["a path of no bytes"] = list(str(""), hash(9))
	return out
}

// P1002: ErrGone of what is told and is no node of a tree, at the root, below a branch, and below an extension.
func TestWrongNodes(t *testing.T) {
	leaf := list(str("\x20"), str("v"))
	for what, x := range wrong() {
		gone(t, what, trie.Open(api.Hash{1}, only(t, map[byte]rlp.Item{1: x})), "\x12\x34")
		below := only(t, map[byte]rlp.Item{1: branch(map[int]rlp.Item{1: hash(2), 5: leaf}), 2: x})
		gone(t, what+", below a branch", trie.Open(api.Hash{1}, below), "\x12\x34")
		behind := only(t, map[byte]rlp.Item{1: list(str("\x00\x12"), hash(2)), 2: x})
		gone(t, what+", below an extension", trie.Open(api.Hash{1}, behind), "\x12\x34")
		if inside := enc(t, x); x.List && len(inside) < 32 {
			in := only(t, map[byte]rlp.Item{1: branch(map[int]rlp.Item{7: x, 8: leaf, 9: leaf})})
			gone(t, what+", inside a branch", trie.Open(api.Hash{1}, in), "\x12\x34")
		}
	}
}

// P1002: ErrGone of bytes that are no item at all.
func TestWrongBytes(t *testing.T) {
	leaf := enc(t, list(str("\x20\x12\x34"), str("v")))
	for _, b := range [][]byte{nil, {}, {0xc1}, {0x81, 0x05}, leaf[:len(leaf)-1], append(bytes.Clone(leaf), 0), append(bytes.Clone(leaf), leaf...), make([]byte, 70000)} {
		gone(t, fmt.Sprintf("%.20x", b), trie.Open(api.Hash{1}, func(api.Hash) ([]byte, bool) { return b, true }), "\x12\x34")
	}
	gone(t, "not told, though there are bytes", trie.Open(api.Hash{1}, func(api.Hash) ([]byte, bool) { return leaf, false }), "\x12\x34")
	gone(t, "nodes that panic", trie.Open(api.Hash{1}, func(api.Hash) ([]byte, bool) { panic("no node") }), "\x12\x34")
}

// P1002: what is told is not asked for its hash, and each kind of node is taken.
func TestOtherHash(t *testing.T) {
	short := list(str("\x20"), str("v"))
	for what, c := range map[string]struct {
		at    map[byte]rlp.Item
		pairs map[string]string
	}{
		"a leaf":                   {map[byte]rlp.Item{1: list(str("\x20\x12"), str("v"))}, map[string]string{"\x12": "v"}},
		"a leaf without nibbles":   {map[byte]rlp.Item{1: short}, map[string]string{"": "v"}},
		"the longest path":         {map[byte]rlp.Item{1: list(str("\x20"+strings.Repeat("p", 64)), str("v"))}, map[string]string{strings.Repeat("p", 64): "v"}},
		"the longest value":        {map[byte]rlp.Item{1: list(str("\x20\x12"), str(strings.Repeat("v", 8192)))}, map[string]string{"\x12": strings.Repeat("v", 8192)}},
		"a branch":                 {map[byte]rlp.Item{1: branch(map[int]rlp.Item{1: hash(2), 2: hash(2), 16: str("w")}), 2: list(str("\x33"), str(long("v")))}, map[string]string{"": "w", "\x13": long("v"), "\x23": long("v")}},
		"an extension":             {map[byte]rlp.Item{1: list(str("\x00\x12"), hash(2)), 2: branch(map[int]rlp.Item{3: list(str("\x34"), str("v")), 16: str("w")})}, map[string]string{"\x12": "w", "\x12\x34": "v"}},
		"an extension, all in one": {map[byte]rlp.Item{1: list(str("\x11"), branch(map[int]rlp.Item{2: short, 3: short}))}, map[string]string{"\x12": "v", "\x13": "v"}},
	} {
		a := trie.Open(api.Hash{1}, only(t, c.at))
		all, err := a.All()
		is(t, what+": All", err, api.OK)
		if told(all) != wanted(c.pairs) {
			t.Errorf("%s: All: %.200s, not %.200s", what, told(all), wanted(c.pairs))
		}
		for key, val := range c.pairs {
			if got, ok, err := a.Get([]byte(key)); string(got) != val || !ok || err != api.OK {
				t.Errorf("%s: Get of %x: %.99x, %v, %d", what, key, got, ok, err)
			}
		}
		lacks(t, what, a, "\xff", "\x12\x34\x56")
		for key := range c.pairs {
			is(t, what+": Delete", a.Delete([]byte(key)), api.OK)
		}
		has(t, what+", all deleted", a, nil)
	}
}

// P1002: each node that is told is asked for itself alone: what stands below an extension may be a node of any kind.
func TestOtherPlace(t *testing.T) {
	for what, below := range map[string]rlp.Item{
		"a leaf":       list(str("\x20\x34"), str("v")),
		"a short leaf": list(str("\x20"), str("v")),
		"an extension": list(str("\x00\x34"), branch(map[int]rlp.Item{1: list(str("\x31"), str("v")), 2: list(str("\x32"), str("w"))})),
	} {
		nodes := only(t, map[byte]rlp.Item{1: list(str("\x00\x12"), hash(2)), 2: below})
		all, err := trie.Open(api.Hash{1}, nodes).All()
		is(t, what+": All", err, api.OK)
		pairs := map[string]string{}
		for _, p := range all {
			pairs[string(p.Key)] = string(p.Val)
		}
		if len(pairs) == 0 {
			t.Errorf("%s: no pairs", what)
		}
		a := trie.Open(api.Hash{1}, nodes)
		for key, val := range pairs {
			if got, ok, err := a.Get([]byte(key)); string(got) != val || !ok || err != api.OK {
				t.Errorf("%s: Get: %x, %v, %d", what, got, ok, err)
			}
			is(t, what+": Put", a.Put([]byte(key), []byte("x")), api.OK)
			has(t, what+", behind Put", a, plainWith(pairs, key, "x"))
			is(t, what+": Put", a.Put([]byte(key), []byte(val)), api.OK)
		}
		a = trie.Open(api.Hash{1}, nodes)
		for key := range pairs {
			is(t, what+": Delete", a.Delete([]byte(key)), api.OK)
		}
		has(t, what+", all deleted", a, nil)
	}
}

// P1002: ErrGone of All where nibbles are left over; of the other calls nothing is wrong there.
func TestLeftOver(t *testing.T) {
	leaf := list(str("\x20"), str("v"))
	for what, at := range map[string]map[byte]rlp.Item{
		"a leaf":                  {1: list(str("\x31"), str("v"))},
		"a long leaf":             {1: list(str("\x31\x23"), str("v"))},
		"a child":                 {1: branch(map[int]rlp.Item{1: leaf, 2: leaf})},
		"a child that is told":    {1: branch(map[int]rlp.Item{1: list(str("\x33"), str("v")), 2: hash(2)}), 2: list(str("\x20\x34"), str(long("v")))},
		"a value at a branch":     {1: list(str("\x11"), branch(map[int]rlp.Item{1: leaf, 16: str("v")}))},
		"behind an extension":     {1: list(str("\x00\x12"), hash(2)), 2: branch(map[int]rlp.Item{3: leaf, 4: list(str("\x34"), str("v"))})},
		"beside one of whole key": {1: branch(map[int]rlp.Item{1: list(str("\x33"), str("v")), 2: leaf, 16: str("w")})},
	} {
		a := trie.Open(api.Hash{1}, only(t, at))
		all, err := a.All()
		is(t, what, err, api.ErrGone)
		if len(all) != 0 {
			t.Errorf("%s: %s", what, told(all))
		}
		lacks(t, what, a, "\x77", "\x12\x77")
		is(t, what+": Delete", a.Delete([]byte("\x77")), api.OK)
		is(t, what+": Put", a.Put([]byte("\x77"), []byte("v")), api.OK)
		if val, ok, err := a.Get([]byte("\x77")); string(val) != "v" || !ok || err != api.OK {
			t.Errorf("%s: Get: %x, %v, %d", what, val, ok, err)
		}
		_, err = a.All()
		is(t, what+", behind Put", err, api.ErrGone)
	}
}

// Rule 1: calls end though nodes are told to stand within themselves, or lead beyond the longest key.
func TestEnds(t *testing.T) {
	leaf := list(str("\x20"), str("v"))
	for what, at := range map[string]map[byte]rlp.Item{
		"an extension to itself":         {1: list(str("\x00\x11"), hash(1))},
		"an extension to itself, of one": {1: list(str("\x11"), hash(1))},
		"a branch in itself":             {1: branch(map[int]rlp.Item{1: hash(1), 3: hash(1)})},
		"a branch and an extension":      {1: branch(map[int]rlp.Item{1: hash(2), 16: str("v")}), 2: list(str("\x11"), hash(1))},
		"behind the longest path":        {1: list(str("\x00"+strings.Repeat("\x11", 64)), hash(2)), 2: branch(map[int]rlp.Item{1: list(str("\x31"), str("v")), 16: str("v")})},
		"two long paths":                 {1: list(str("\x00"+strings.Repeat("\x11", 64)), hash(2)), 2: list(str("\x20\x11"), str("v"))},
	} {
		a := trie.Open(api.Hash{1}, only(t, at))
		_, err := a.All()
		is(t, what+": All", err, api.ErrGone)
		for _, n := range []int{0, 1, 2, 63, 64} {
			key := bytes.Repeat([]byte{0x11}, n)
			_, _, err := a.Get(key)
			is(t, what+": Get", err, api.OK)
			is(t, what+": Put", a.Put(key, []byte("v")), api.OK)
			a.Root()
			is(t, what+": Delete", a.Delete(key), api.OK)
			a.Root()
		}
	}
	most := map[byte]rlp.Item{1: list(str("\x00"+strings.Repeat("\x11", 63)), hash(2)), 2: branch(map[int]rlp.Item{1: list(str("\x31"), str("v")), 2: list(str("\x32"), str("v")), 16: leaf.Items[1]})}
	all, err := trie.Open(api.Hash{1}, only(t, most)).All()
	is(t, "the longest keys", err, api.OK)
	if len(all) != 3 || len(all[2].Key) != 64 {
		t.Errorf("the longest keys: %s", told(all))
	}
}
