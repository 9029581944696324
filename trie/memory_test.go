package trie_test

import (
	"bytes"
	"testing"

	"conclave/api"
	"conclave/trie"
)

// overwrite: all bytes of a list, its spare room too.
func overwrite(b []byte) {
	b = b[:cap(b)]
	for i := range b {
		b[i] ^= 0xa5
	}
}

// Rule 4: what comes in is neither changed nor kept, its spare room neither.
func TestHandedIn(t *testing.T) {
	for _, size := range []int{1, 40} {
		a := trie.Open(trie.Empty(), nil)
		pairs := map[string]string{}
		for _, key := range []string{"", "d", "do", "dog", "doge", "horse", "dot"} {
			pairs[key] = string(bytes.Repeat([]byte("v"), size))
			k := append([]byte(key), "spare"...)
			v := append([]byte(pairs[key]), "spare"...)
			is(t, "Put", a.Put(k[:len(key)], v[:size]), api.OK)
			a.Get(k[:len(key)])
			if string(k) != key+"spare" || string(v) != pairs[key]+"spare" {
				t.Errorf("changed: %q, %q", k, v)
			}
			overwrite(k)
			overwrite(v)
			has(t, "behind Put", a, pairs)
		}
		k := []byte("dogspare")
		is(t, "Delete", a.Delete(k[:3]), api.OK)
		if string(k) != "dogspare" {
			t.Errorf("changed: %q", k)
		}
		overwrite(k)
		has(t, "behind Delete", a, plainWith(pairs, "dog", ""))
	}
	nibbles := []byte{1, 2, 3, 4, 5}
	b, _ := trie.Compact(nibbles[:3], true)
	head := []byte{0x11, 0x23, 0x45}
	l, _, _ := trie.Expand(head[:2])
	if !bytes.Equal(nibbles, []byte{1, 2, 3, 4, 5}) || !bytes.Equal(head, []byte{0x11, 0x23, 0x45}) {
		t.Errorf("changed: %x, %x", nibbles, head)
	}
	overwrite(nibbles)
	overwrite(head)
	if !bytes.Equal(b, []byte{0x31, 0x23}) || !bytes.Equal(l, []byte{1, 2, 3}) {
		t.Errorf("shared: %x, %x", b, l)
	}
}

// Rule 4: what nodes tells is neither changed nor kept.
func TestToldIn(t *testing.T) {
	pairs := map[string]string{"do": long("1"), "dog": "2", "doge": long("3"), "horse": "4"}
	root, nodes := plainRoot(pairs)
	var handed [][]byte
	a := trie.Open(root, func(h api.Hash) ([]byte, bool) {
		b := append(bytes.Clone(nodes[h]), "spare"...)
		handed = append(handed, b)
		return b[:len(nodes[h])], nodes[h] != nil
	})
	spoil := func() {
		t.Helper()
		for _, b := range handed {
			if !bytes.HasSuffix(b, []byte("spare")) || nodes[keccakOf(b)] == nil {
				t.Errorf("changed: %x", b)
			}
			overwrite(b)
		}
		handed = nil
	}
	val, _, _ := a.Get([]byte("dog"))
	all, _ := a.All()
	spoil()
	if string(val) != "2" || told(all) != wanted(pairs) {
		t.Errorf("shared: %x, %s", val, told(all))
	}
	is(t, "Put", a.Put([]byte("dot"), []byte("5")), api.OK)
	spoil()
	is(t, "Delete", a.Delete([]byte("horse")), api.OK)
	spoil()
	now := plainWith(plainWith(pairs, "dot", "5"), "horse", "")
	has(t, "behind Put and Delete", a, now)
	spoil()
	has(t, "once more", a, now)
}

// Rule 4: what is handed out is new memory, each list in it, spare room too.
func TestHandedOut(t *testing.T) {
	pairs := map[string]string{"": "0", "do": long("1"), "dog": "2", "doge": long("3"), "horse": "4"}
	root, nodes := plainRoot(pairs)
	for _, a := range []*trie.Tree{made(t, pairs), newStore(nodes).open(root)} {
		for key := range pairs {
			val, _, _ := a.Get([]byte(key))
			overwrite(val)
			_ = append(val, "++++"...)
		}
		has(t, "behind Get", a, pairs)
		all, _ := a.All()
		other, _ := a.All()
		for i := range all {
			overwrite(all[i].Key)
			all[i].Key = []byte(other[i].Key)
			if told(all) != wanted(pairs) {
				t.Errorf("a key is shared: %s", told(all))
			}
			overwrite(all[i].Val)
			all[i].Val = other[i].Val
			if told(all) != wanted(pairs) {
				t.Errorf("a value is shared: %s", told(all))
			}
		}
		has(t, "behind All", a, pairs)
		is(t, "Put", a.Put([]byte("dog"), []byte(long("2"))), api.OK)
		h, l := a.Root()
		for i := range l {
			overwrite(l[i].Enc)
			for _, n := range l[i+1:] {
				if keccakOf(append(bytes.Clone(n.Enc), "spare"...)) != n.Hash {
					t.Errorf("nodes share memory: %x", n.Enc)
				}
			}
		}
		has(t, "behind Root", a, plainWith(pairs, "dog", long("2")))
		again, l := a.Root()
		s := newStore(nodes)
		s.add(t, l)
		if again != h {
			t.Errorf("Root: %x, then %x", h, again)
		}
		is(t, "Put", a.Put([]byte("dog"), []byte("2")), api.OK)
		has(t, "told ahead of Put", s.open(h), plainWith(pairs, "dog", long("2")))
	}
	c, _ := trie.Compact([]byte{1, 2, 3}, false)
	d, _ := trie.Compact([]byte{1, 2, 3}, false)
	overwrite(c)
	e, _, _ := trie.Expand([]byte{0x11, 0x23})
	f, _, _ := trie.Expand([]byte{0x11, 0x23})
	overwrite(e)
	if !bytes.Equal(d, []byte{0x11, 0x23}) || !bytes.Equal(f, []byte{1, 2, 3}) {
		t.Errorf("two answers share memory: %x, %x", d, f)
	}
}
