package trie_test

import (
	"bytes"
	"strings"
	"testing"

	"conclave/api"
	"conclave/trie"
)

// P1002, P1003: the calls of nil, whatever they are given.
func TestNil(t *testing.T) {
	var a *trie.Tree
	for _, key := range [][]byte{nil, {1}, make([]byte, 64), make([]byte, 65)} {
		val, ok, err := a.Get(key)
		if len(val) != 0 || ok {
			t.Errorf("Get of nil: %x, %v", val, ok)
		}
		is(t, "Get of nil", err, api.ErrNil)
		is(t, "Delete of nil", a.Delete(key), api.ErrNil)
		for _, val := range [][]byte{nil, {1}, make([]byte, 8192), make([]byte, 8193)} {
			is(t, "Put of nil", a.Put(key, val), api.ErrNil)
		}
	}
	all, err := a.All()
	is(t, "All of nil", err, api.ErrNil)
	h, l := a.Root()
	if len(all) != 0 || h != (api.Hash{}) || len(l) != 0 {
		t.Errorf("of nil: %v, %x, %v", all, h, l)
	}
}

// P1002: keys of 0, MaxKey and MaxKey + 1 bytes, values of 0, 1, 8192 and 8193 bytes.
func TestSizes(t *testing.T) {
	for _, n := range []int{0, 1, 63, 64, 65, 66, 1000} {
		for _, m := range []int{0, 1, 8191, 8192, 8193, 70000} {
			key, val := bytes.Repeat([]byte{0xab}, n), bytes.Repeat([]byte{0xcd}, m)
			pairs := map[string]string{"a": "1", long("k"): long("v")}
			a := made(t, pairs)
			want := api.OK
			if n > 64 || m > 8192 {
				want = api.ErrBig
			}
			is(t, "Put", a.Put(key, val), want)
			after := pairs
			if want == api.OK {
				after = plainWith(pairs, string(key), string(val))
			}
			has(t, "behind Put", a, after)
			if n > 64 {
				got, ok, err := a.Get(key)
				if len(got) != 0 || ok || err != api.ErrBig {
					t.Errorf("Get of a key of %d bytes: %x, %v, %d", n, got, ok, err)
				}
				is(t, "Delete", a.Delete(key), api.ErrBig)
				has(t, "behind Delete", a, after)
				continue
			}
			is(t, "Delete", a.Delete(key), api.OK)
			has(t, "behind Delete", a, pairs)
			lacks(t, "behind Delete", a, string(key))
		}
	}
}

// P1002: keys of MaxKey bytes that begin alike, as far as can be.
func TestLongest(t *testing.T) {
	most := strings.Repeat("k", 63)
	pairs := map[string]string{most: "0", most + "\x00": "1", most + "\x01": long("2"), most + "\x10": "3", most + "\xff": long("4"), most[1:]: "5"}
	has(t, "longest", made(t, pairs), pairs)
	root, nodes := plainRoot(pairs)
	has(t, "longest, opened", newStore(nodes).open(root), pairs)
}

// P1002: ErrBig comes ahead of ErrGone, and ErrGone of all that is asked of a root that is not told.
func TestErrorOrder(t *testing.T) {
	for _, root := range []api.Hash{{}, {1}, {31: 255}} {
		a := trie.Open(root, nil)
		big, fits := make([]byte, 65), make([]byte, 64)
		_, _, err := a.Get(big)
		is(t, "Get", err, api.ErrBig)
		is(t, "Delete", a.Delete(big), api.ErrBig)
		is(t, "Put", a.Put(big, nil), api.ErrBig)
		is(t, "Put", a.Put(big, make([]byte, 8193)), api.ErrBig)
		is(t, "Put", a.Put(nil, make([]byte, 8193)), api.ErrBig)
		val, ok, err := a.Get(fits)
		is(t, "Get", err, api.ErrGone)
		is(t, "Delete", a.Delete(fits), api.ErrGone)
		is(t, "Delete", a.Delete(nil), api.ErrGone)
		is(t, "Put", a.Put(fits, nil), api.ErrGone)
		is(t, "Put", a.Put(nil, make([]byte, 8192)), api.ErrGone)
		all, gone := a.All()
		is(t, "All", gone, api.ErrGone)
		if h, l := a.Root(); h != root || len(l) != 0 || len(val) != 0 || ok || len(all) != 0 {
			t.Errorf("Root: %x, %v; Get: %x, %v; All: %v", h, l, val, ok, all)
		}
	}
}

// P1002: trees of no pair, of one, of some that begin alike, of a key that is the beginning of another one, with values at branches.
func TestPairs(t *testing.T) {
	has(t, "no pair", made(t, nil), nil)
	lacks(t, "no pair", made(t, nil), "", "a")
	for _, c := range []struct {
		what, keys string
		not        []string
	}{
		{"the empty key", ".", []string{"\x00", "a"}},
		{"one", "dog", []string{"", "d", "do", "dogs", "doh", "\xff"}},
		{"a fork at the first nibble", "\x00 \x10", []string{"", "\x01", "\x11", "\x20", "\x00\x00"}},
		{"a fork at the second nibble", "\x10 \x11", []string{"", "\x12", "\x01", "\x10\x00"}},
		{"alike but the last", "dogA dogB dogQ", []string{"", "dog", "dogC", "dogAA", "doh"}},
		{"a beginning", "do dog", []string{"", "d", "dogs", "dp", "e"}},
		{"a beginning of several", "do dog dot doge horse", []string{"", "d", "dogs", "dou", "doges", "hors"}},
		{"the empty key too", ". a ab abc b", []string{"c", "aa", "abb", "abcd"}},
		{"a chain", ". a aa aaa aaaa aaaaa", []string{"aaaaaa", "ab", "q"}},
	} {
		for _, size := range []int{1, 2, 30, 40, 300} {
			pairs := map[string]string{}
			for i, key := range strings.Split(c.keys, " ") {
				pairs[strings.Trim(key, ".")] = strings.Repeat(string(rune('A'+i)), size)
			}
			a := made(t, pairs)
			has(t, c.what, a, pairs)
			lacks(t, c.what, a, c.not...)
			root, nodes := plainRoot(pairs)
			b := newStore(nodes).open(root)
			has(t, c.what+", opened", b, pairs)
			lacks(t, c.what+", opened", b, c.not...)
		}
	}
}

// P1002: Put changes a value, from and to any length; an empty one is as Delete.
func TestPutAgain(t *testing.T) {
	pairs := map[string]string{"do": "1", "dog": "2", "doge": long("3"), "horse": "4"}
	root, nodes := plainRoot(pairs)
	for key := range pairs {
		for _, a := range []*trie.Tree{made(t, pairs), newStore(nodes).open(root)} {
			for _, val := range []string{"x", long("y"), "z", strings.Repeat("w", 8192), "", "", "v"} {
				is(t, "Put", a.Put([]byte(key), []byte(val)), api.OK)
				has(t, "behind Put", a, plainWith(pairs, key, val))
			}
			is(t, "Put of nil", a.Put([]byte(key), nil), api.OK)
			has(t, "behind Put of nil", a, plainWith(pairs, key, ""))
			is(t, "Put", a.Put([]byte(key), []byte(pairs[key])), api.OK)
			has(t, "as it was", a, pairs)
		}
	}
}

// P1002: Delete that leaves a branch with one child: a leaf, an extension, a branch, or the value alone; of a key that was never there; of all.
func TestDelete(t *testing.T) {
	for _, c := range []struct{ what, keys, key string }{
		{"a leaf is left", "\x10 \x20", "\x10"},
		{"a leaf without nibbles is left", "\x10 \x11", "\x10"},
		{"an extension is left", "\x10 \x20\x01 \x20\x02", "\x10"},
		{"a branch is left", "\x10 \x20 \x21 \x22", "\x10"},
		{"the value alone is left", "a ab", "ab"},
		{"a value goes, a leaf is left", "a ab", "a"},
		{"a value goes, an extension is left", "a abc abd", "a"},
		{"a value goes, a branch is left", "a a\x10 a\x11", "a"},
		{"behind an extension a leaf is left", "aab aac", "aab"},
		{"behind an extension an extension is left", "aab\x10 aac\x10\x11 aac\x10\x12", "aab\x10"},
		{"behind an extension a branch is left", "aa\x10 aa\x20 aa\x21", "aa\x10"},
		{"two children and more are left", "a\x10 a\x20 a\x30", "a\x20"},
		{"a child and a value are left", "a a\x10 a\x20", "a\x20"},
		{"never there", "a a\x10 a\x20", "a\x30"},
		{"never there, behind a leaf", "a ab", "abc"},
		{"never there, inside an extension", "abcd abce", "ab"},
		{"never there, beside an extension", "abcd abce", "b"},
		{"never there, no value at a branch", "aab aac", "aa"},
	} {
		for _, size := range []int{1, 40} {
			pairs := map[string]string{}
			for i, key := range strings.Split(c.keys, " ") {
				pairs[key] = strings.Repeat(string(rune('A'+i)), size)
			}
			root, nodes := plainRoot(pairs)
			for _, a := range []*trie.Tree{made(t, pairs), newStore(nodes).open(root)} {
				is(t, c.what, a.Delete([]byte(c.key)), api.OK)
				has(t, c.what, a, plainWith(pairs, c.key, ""))
				lacks(t, c.what, a, c.key)
				for key := range pairs {
					is(t, c.what, a.Delete([]byte(key)), api.OK)
				}
				if h, l := a.Root(); h != trie.Empty() || len(l) != 0 {
					t.Errorf("%s: all deleted: %x, %v", c.what, h, l)
				}
				has(t, c.what+", all deleted", a, nil)
			}
		}
	}
	is(t, "of no pairs", trie.Open(trie.Empty(), nil).Delete([]byte("a")), api.OK)
	is(t, "of no pairs", trie.Open(trie.Empty(), nil).Put(nil, nil), api.OK)
}

// P1002: All: keys rise by bytes, a key ahead of those that go on from it.
func TestAll(t *testing.T) {
	pairs := map[string]string{}
	for _, key := range []string{"", "\x00", "\x00\x00", "\x00\xff", "\x01", "\x0f", "\x10", "\x7f", "\x80", "\x80\x00", "\xff", "\xff\x00", "\xff\xff", long("\xff"), "a", "ab", "b"} {
		pairs[key] = "v" + key
	}
	has(t, "All", made(t, pairs), pairs)
	if all, err := trie.Open(trie.Empty(), nil).All(); len(all) != 0 || err != api.OK {
		t.Errorf("All of no pairs: %v, %d", all, err)
	}
	root, nodes := plainRoot(pairs)
	has(t, "All, opened", newStore(nodes).open(root), pairs)
}

// P1002: two trees over the same nodes share nothing.
func TestApart(t *testing.T) {
	pairs := map[string]string{"do": "1", "dog": long("2"), "doge": long("3"), "horse": "4"}
	root, nodes := plainRoot(pairs)
	s := newStore(nodes)
	a, b := s.open(root), s.open(root)
	is(t, "Put", a.Put([]byte("dog"), []byte("x")), api.OK)
	is(t, "Delete", b.Delete([]byte("doge")), api.OK)
	has(t, "the one", a, plainWith(pairs, "dog", "x"))
	has(t, "the other", b, plainWith(pairs, "doge", ""))
}
