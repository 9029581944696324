package trie_test

import (
	"fmt"
	"testing"

	"conclave/api"
	"conclave/trie"
)

// stepKeys: keys of which some are others' beginnings, with forks at each nibble.
func stepKeys() []string {
	return []string{"", "\x00", "\x01", "\x10", "\x00\x00", "\x00\x01", "\x12\x34", "\x12\x35"}
}

// subset: the pairs of some of the keys, by the bits of a number; how long the values are hangs on kind.
func subset(bits, kind int) map[string]string {
	pairs := map[string]string{}
	for i, key := range stepKeys() {
		if bits>>i&1 == 0 {
			continue
		}
		pairs[key] = fmt.Sprint("v", i)
		if kind == 1 || kind == 2 && i%2 == 0 {
			pairs[key] = long(pairs[key])
		}
	}
	return pairs
}

// step: one call, with its key; val is what Put takes, and empty of Delete.
type step struct {
	kind     string
	key, val string
}

// do: the call, as a text.
func (s step) do(a *trie.Tree) string {
	switch s.kind {
	case "get":
		val, ok, err := a.Get([]byte(s.key))
		return fmt.Sprintf("%x %v %d", val, ok, err)
	case "put":
		return fmt.Sprint(int(a.Put([]byte(s.key), []byte(s.val))))
	}
	return fmt.Sprint(int(a.Delete([]byte(s.key))))
}

// after: the pairs behind the call, and what it answers.
func (s step) after(pairs map[string]string) (map[string]string, string) {
	if s.kind == "get" {
		val, ok := pairs[s.key]
		return pairs, fmt.Sprintf("%x %v 0", val, ok)
	}
	return plainWith(pairs, s.key, s.val), "0"
}

func (s step) gone() string {
	if s.kind == "get" {
		return " false 33"
	}
	return "33"
}

// P1002 to P1004: of each tree of some keys, each call with each of them, on the tree as it is opened: the answer, the root behind it, and that just nodes that are wanted are asked for.
func TestSteps(t *testing.T) {
	for bits := range 1 << len(stepKeys()) {
		for kind := range 3 {
			pairs := subset(bits, kind)
			root, nodes := plainRoot(pairs)
			for _, key := range append(stepKeys(), "\x12", "\xff") {
				for _, s := range []step{{"get", key, ""}, {"put", key, "w"}, {"put", key, long("w")}, {"put", key, ""}, {"delete", key, ""}} {
					takes(t, fmt.Sprintf("%s %x %.9s of %d, %d", s.kind, key, s.val, bits, kind), s, pairs, root, nodes)
				}
			}
		}
	}
}

// takes: a call with all nodes there, and with each that is wanted missing.
func takes(t *testing.T, what string, s step, pairs map[string]string, root api.Hash, nodes map[api.Hash][]byte) {
	t.Helper()
	after, answer := s.after(pairs)
	want := map[api.Hash]int{}
	for _, h := range plainPath(plainHalves(pairs), plainNibbles(s.key), true, s.kind != "get" && s.val == "") {
		want[h]++
	}
	st := newStore(nodes)
	a := st.open(root)
	if got := s.do(a); got != answer {
		t.Fatalf("%s: %s, not %s", what, got, answer)
	}
	for h := range st.asked {
		if want[h] == 0 {
			t.Fatalf("%s: a node is asked for that is not wanted: %x", what, nodes[h])
		}
	}
	now, l := a.Root()
	if right, _ := plainRoot(after); now != right {
		t.Fatalf("%s: the root %x, not %x", what, now, right)
	}
	st.add(t, l)
	if all, err := st.open(now).All(); err != api.OK || told(all) != wanted(after) {
		t.Fatalf("%s: opened again: %s, %d", what, told(all), err)
	}
	for h := range want {
		lack := newStore(nodes)
		delete(lack.nodes, h)
		a := lack.open(root)
		if got := s.do(a); got != s.gone() {
			t.Fatalf("%s without %x: %s", what, nodes[h], got)
		}
		if now, l := a.Root(); now != root || len(l) != 0 {
			t.Fatalf("%s without %x: the root %x", what, nodes[h], now)
		}
		lack.nodes[h] = nodes[h]
		if got := s.do(a); got != answer {
			t.Fatalf("%s, told again: %s", what, got)
		}
	}
}

// P1002: All wants all nodes.
func TestAllGone(t *testing.T) {
	for bits := range 1 << len(stepKeys()) {
		pairs := subset(bits, 1+bits%2)
		root, nodes := plainRoot(pairs)
		for h := range nodes {
			s := newStore(nodes)
			delete(s.nodes, h)
			a := s.open(root)
			all, err := a.All()
			is(t, "All", err, api.ErrGone)
			if len(all) != 0 {
				t.Errorf("All: %s", told(all))
			}
			s.nodes[h] = nodes[h]
			has(t, "told again", a, pairs)
		}
	}
}
