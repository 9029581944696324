package trie_test

import (
	"fmt"
	"math/rand/v2"
	"slices"
	"strings"
	"testing"

	"conclave/api"
	"conclave/trie"
)

// drawKey: of few bytes, so that keys meet and begin alike; now and then of many.
func drawKey(r *rand.Rand) string {
	n := r.IntN(5)
	if r.IntN(20) == 0 {
		n = 60 + r.IntN(5)
	}
	key := make([]byte, n)
	for i := range key {
		key[i] = []byte{0x00, 0x01, 0x10, 0x11, 0xff}[r.IntN(5)]
	}
	return string(key)
}

func drawVal(r *rand.Rand) string {
	n := 1 + r.IntN(35)
	switch r.IntN(12) {
	case 0:
		n = 0
	case 1:
		n = 8192 - r.IntN(2)
	}
	return strings.Repeat(string([]byte{byte(r.IntN(256))}), n)
}

func drawStep(r *rand.Rand) step {
	x := step{[]string{"get", "put", "put", "delete"}[r.IntN(4)], drawKey(r), ""}
	if x.kind == "put" {
		x.val = drawVal(r)
	}
	return x
}

// P1002 to P1004: drawn calls, held against the chapter's words; now and then the tree is opened again over what was told, or another tree with the same pairs lacks a node.
func TestDrawn(t *testing.T) {
	r := rand.New(rand.NewPCG(10, 4))
	met := map[string]int{}
	for round := range 40 {
		s := newStore(nil)
		a := s.open(trie.Empty())
		pairs := map[string]string{}
		for i := range 150 {
			x := drawStep(r)
			what := fmt.Sprintf("round %d, call %d: %s of %x", round, i, x.kind, x.key)
			var want string
			pairs, want = x.after(pairs)
			if got := x.do(a); got != want {
				t.Fatalf("%s: %.99s, not %.99s", what, got, want)
			}
			met[x.kind+" "+want[strings.Index(want, " ")+1:]]++
			switch r.IntN(15) {
			case 0:
				h, l := a.Root()
				s.add(t, l)
				a = s.open(h)
				met["opened"]++
			case 1:
				met[missing(t, r, what, pairs)]++
			case 2:
				has(t, what, a, pairs)
			}
			hasRoot(t, what, a, pairs)
		}
	}
	for _, want := range []string{"get true 0", "get false 0", "put 0", "delete 0", "opened", "gone", "not gone"} {
		if met[want] < 20 {
			t.Errorf("too few draws met %q: %v", want, met)
		}
	}
}

// missing: a drawn call of a tree with these pairs, of which one node is not told: it says ErrGone just where that node is wanted.
func missing(t *testing.T, r *rand.Rand, what string, pairs map[string]string) string {
	t.Helper()
	root, nodes := plainRoot(pairs)
	if len(nodes) == 0 {
		return "no node"
	}
	x := drawStep(r)
	want := plainPath(plainHalves(pairs), plainNibbles(x.key), true, x.kind != "get" && x.val == "")
	all := hashes(nodes)
	lost := api.Hash([]byte(all[r.IntN(len(all))]))
	if r.IntN(2) == 0 {
		lost = want[r.IntN(len(want))]
	}
	s := newStore(nodes)
	delete(s.nodes, lost)
	kind, answer := "gone", x.gone()
	if !slices.Contains(want, lost) {
		kind = "not gone"
		_, answer = x.after(pairs)
	}
	if got := x.do(s.open(root)); got != answer {
		t.Errorf("%s: %s of %x with a node missing: %.99s, not %.99s", what, x.kind, x.key, got, answer)
	}
	return kind
}

// P1003, P1004: many pairs, put in and taken out again, root by root.
func TestMany(t *testing.T) {
	r := rand.New(rand.NewPCG(10, 5))
	a := trie.Open(trie.Empty(), nil)
	pairs := map[string]string{}
	for range 2000 {
		key := make([]byte, 32)
		for i := range key {
			key[i] = byte(r.Uint32())
		}
		pairs[string(key)] = drawVal(r) + "v"
		if len(pairs[string(key)]) > 100 {
			pairs[string(key)] = "v"
		}
		is(t, "Put", a.Put(key, []byte(pairs[string(key)])), api.OK)
	}
	has(t, "many", a, pairs)
	h, l := a.Root()
	s := newStore(nil)
	s.add(t, l)
	b := s.open(h)
	has(t, "many, opened", b, pairs)
	n := 0
	for key := range pairs {
		is(t, "Delete", b.Delete([]byte(key)), api.OK)
		delete(pairs, key)
		if n++; n == 1000 {
			has(t, "half of them", b, pairs)
		}
	}
	has(t, "none", b, nil)
}
