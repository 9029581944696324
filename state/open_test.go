package state_test

import (
	"fmt"
	"maps"
	"strings"
	"testing"

	"conclave/api"
	"conclave/keccak"
	"conclave/rlp"
	"conclave/state"
	"conclave/trie"
	"conclave/word"
)

// P1101: Open asks for nothing, nor does Root of what was not set; without a function nothing is told.
func TestOpenAsksNothing(t *testing.T) {
	root := api.Hash{1, 2, 3}
	for kind, nodes := range map[string]func(api.Hash) ([]byte, bool){
		"nil":     nil,
		"nothing": newStore().tell,
		"panics":  func(api.Hash) ([]byte, bool) { panic("asked") },
	} {
		s := state.Open(root, nodes)
		h, l := s.Root()
		is(t, kind+": Root", fmt.Sprint(h, len(l), s.Err()), fmt.Sprint(root, 0, api.OK))
		is(t, kind+": Balance", s.Balance(addr(1)), num(0))
		zero(t, kind, s, api.ErrGone)
		s = state.Open(trie.Empty(), nodes)
		s.SetBalance(addr(1), num(5))
		s.SetSlot(addr(1), num(1), num(5))
		s.SetCode(addr(1), []byte{5})
		h, l = s.Root()
		is(t, kind+": without accounts", fmt.Sprint(h == trie.Empty(), len(l) > 2, s.Err()), fmt.Sprint(false, true, api.OK))
	}
	zero(t, "the zero hash", broke(state.Open(api.Hash{}, nil)), api.ErrGone)
}

// broke: a state behind a look.
func broke(s *state.State) *state.State {
	s.Exists(addr(1))
	return s
}

// calls: all that wants an account, a slot's way, or a code, by name.
func calls() map[string]func(s *state.State, a api.Addr, k api.Word) {
	return map[string]func(s *state.State, a api.Addr, k api.Word){
		"Exists":      func(s *state.State, a api.Addr, k api.Word) { s.Exists(a) },
		"Balance":     func(s *state.State, a api.Addr, k api.Word) { s.Balance(a) },
		"Nonce":       func(s *state.State, a api.Addr, k api.Word) { s.Nonce(a) },
		"CodeHash":    func(s *state.State, a api.Addr, k api.Word) { s.CodeHash(a) },
		"SetBalance":  func(s *state.State, a api.Addr, k api.Word) { s.SetBalance(a, num(1)) },
		"SetNonce":    func(s *state.State, a api.Addr, k api.Word) { s.SetNonce(a, 1) },
		"SetCode":     func(s *state.State, a api.Addr, k api.Word) { s.SetCode(a, []byte{1}) },
		"code Code":   func(s *state.State, a api.Addr, k api.Word) { s.Code(a) },
		"slot Slot":   func(s *state.State, a api.Addr, k api.Word) { s.Slot(a, k) },
		"slot Orig.":  func(s *state.State, a api.Addr, k api.Word) { s.Original(a, k) },
		"slot SetSl.": func(s *state.State, a api.Addr, k api.Word) { s.SetSlot(a, k, num(1)) },
	}
}

// some: accounts of each kind, with storages and codes, in a tree of some depth.
func some() *plain {
	p := newPlain()
	for c := range byte(24) {
		a := addr(c)
		p.SetBalance(a, num(uint64(c)))
		p.SetNonce(a, uint64(c%3))
		if c%4 == 1 {
			p.SetCode(a, []byte(strings.Repeat("c", int(c))))
		}
		if c%5 == 1 {
			for k := range uint64(c) {
				p.SetSlot(a, num(k), word.Shl(num(7*k), num(uint64(c)+k)))
			}
		}
	}
	return p.opened()
}

// asked: the hashes that a tree asks for on the way to the hash of these bytes.
func asked(st *store, root api.Hash, of []byte) map[api.Hash]int {
	s := &store{told: st.told, asked: map[api.Hash]int{}}
	h := keccak.Sum(of)
	trie.Open(root, s.tell).Get(h[:])
	return s.asked
}

// wants: what a call of that name wants to be told.
func wants(st *store, root api.Hash, p *plain, name string, a api.Addr, k api.Word) map[api.Hash]int {
	out := asked(st, root, a[:])
	kind, _, _ := strings.Cut(name, " ")
	if kind == "code" && len(p.Code(a)) > 0 {
		out[p.CodeHash(a)]++
	}
	if kind == "slot" && p.Exists(a) {
		node, _ := plainNode(p.accounts[a])
		x, _ := rlp.Decode(node)
		maps.Copy(out, asked(st, api.Hash(x.Items[2].Bytes), word.Bytes(k)))
	}
	return out
}

// P1101: of all that there is to tell one thing is not told: each call breaks the state just where it wants that.
func TestMissing(t *testing.T) {
	p := some()
	root, st := storeOf(p)
	met := map[string]int{}
	for name, call := range calls() {
		for c := range byte(26) {
			for _, k := range []api.Word{num(0), num(3), num(99)} {
				a := addr(c)
				want := wants(st, root, p, name, a, k)
				for lost := range st.told {
					s := state.Open(root, func(h api.Hash) ([]byte, bool) {
						return st.told[h], h != lost
					})
					call(s, a, k)
					what := fmt.Sprintf("%s of %x, %x, without %x", name, a, k, lost)
					if _, ok := want[lost]; !ok {
						met[name+": not wanted"]++
						is(t, what, s.Err(), api.OK)
						continue
					}
					met[name+": wanted"]++
					is(t, what, s.Err(), api.ErrGone)
					if met[name+": wanted"]%20 == 0 {
						zero(t, what, s, api.ErrGone)
					}
				}
				if t.Failed() {
					return
				}
			}
		}
	}
	for name := range calls() {
		if met[name+": wanted"] < 100 || met[name+": not wanted"] < 100 {
			t.Errorf("%s: too few: %v", name, met)
		}
	}
}

// P1101: from the first want on that is not told nothing changes, and all that is asked is zero, whatever was there ahead of that.
func TestBrokenForGood(t *testing.T) {
	p := some()
	root, st := storeOf(p)
	for name, call := range calls() {
		gone := false
		s := state.Open(root, func(h api.Hash) ([]byte, bool) { return st.told[h], !gone })
		s.SetBalance(addr(1), num(76))
		s.SetSlot(addr(1), num(1), num(77))
		s.Begin()
		s.SetSlot(addr(1), num(1), num(78))
		s.SetCode(addr(2), []byte{79})
		s.Warm(addr(1))
		s.WarmSlot(addr(1), num(1))
		s.AddRefund(5)
		s.Log(api.Log{Data: []byte{1}})
		is(t, name+": Snapshot", s.Snapshot(), 0)
		s.SetBalance(addr(1), num(80))
		is(t, name+": Err", s.Err(), api.OK)
		gone = true
		is(t, name+": what was set is there still", fmt.Sprint(s.Balance(addr(1)), s.Slot(addr(1), num(1)), s.Original(addr(1), num(1)), s.Err()), fmt.Sprint(num(80), num(78), num(77), api.OK))
		call(s, addr(13), num(1))
		is(t, name+": Err", s.Err(), api.ErrGone)
		zero(t, name, s, api.ErrGone)
		gone = false
		zero(t, name+", told again", s, api.ErrGone)
		for range 2 { // it is there, since nothing changes
			is(t, name+": Revert", s.Revert(0), api.OK)
		}
		is(t, name+": Revert to none", fmt.Sprint(int(s.Revert(-1)), int(s.Revert(1))), "1 1")
		zero(t, name+", behind Revert", s, api.ErrGone)
	}
}

// P1101: a code that is not told is no matter for what does not want it.
func TestCodeGone(t *testing.T) {
	p := newPlain()
	p.SetCode(addr(1), []byte("code"))
	root, st := storeOf(p)
	delete(st.told, p.CodeHash(addr(1)))
	open := func() *state.State { return state.Open(root, st.tell) }
	s := open()
	is(t, "looks", fmt.Sprint(s.Exists(addr(1)), s.CodeHash(addr(1)) == p.CodeHash(addr(1)), s.Code(addr(2)), s.Err()), fmt.Sprint(true, true, []byte{}, api.OK))
	s.SetBalance(addr(1), num(1))
	p.SetBalance(addr(1), num(1))
	sameRoot(t, "a balance more", s, p)
	is(t, "Code", len(s.Code(addr(1))), 0)
	zero(t, "behind Code", s, api.ErrGone)
	s = open()
	s.SetCode(addr(1), []byte("code"))
	is(t, "set to what it is", fmt.Sprint(s.Code(addr(1)), s.Err()), fmt.Sprint([]byte("code"), api.OK))
	_, l := s.Root()
	st.add(t, l)
	is(t, "told since it was set", string(open().Code(addr(1))), "code")
	s = open()
	id := s.Snapshot()
	s.SetCode(addr(1), nil)
	is(t, "Code of none", fmt.Sprint(s.Code(addr(1)), s.Exists(addr(1)), s.Revert(id)), fmt.Sprint([]byte{}, false, api.OK))
	is(t, "Code, taken back", string(s.Code(addr(1))), "code")
}

// P1101: what nodes tells is taken: its hash is not asked.
func TestCodeAsTold(t *testing.T) {
	p := newPlain()
	p.SetCode(addr(1), []byte("code"))
	root, st := storeOf(p)
	st.told[p.CodeHash(addr(1))] = []byte("another")
	s := state.Open(root, st.tell)
	is(t, "Code", fmt.Sprint(string(s.Code(addr(1))), s.CodeHash(addr(1)) == p.CodeHash(addr(1)), s.Err()), fmt.Sprint("another", true, api.OK))
}

// P1101: a function that panics tells nothing, of a node or of a code.
func TestPanics(t *testing.T) {
	p := newPlain()
	p.SetCode(addr(1), []byte("code"))
	root, st := storeOf(p)
	for name, call := range calls() {
		s := state.Open(root, func(h api.Hash) ([]byte, bool) {
			if name != "code Code" || h == p.CodeHash(addr(1)) {
				panic("asked")
			}
			return st.tell(h)
		})
		call(s, addr(1), num(1))
		zero(t, name, s, api.ErrGone)
	}
}

// wrongNodes: bytes that are no node of an account that is not empty.
func wrongNodes() map[string][]byte {
	hash := rlp.Str(make([]byte, 32))
	short, long := rlp.Str(make([]byte, 31)), rlp.Str(make([]byte, 33))
	none := keccak.Sum(nil)
	node := func(items ...rlp.Item) []byte { return encoded(rlp.List(items...)) }
	bytesOf := func(n int) rlp.Item { return rlp.Str([]byte(strings.Repeat("\x01", n))) }
	right := node(rlp.Num(1), rlp.Num(1), hash, hash)
	return map[string][]byte{
		"a byte":                   {1},
		"bytes":                    encoded(rlp.Str(right)),
		"no encoding":              {0xff},
		"one that ends early":      right[:len(right)-1],
		"one with a byte behind":   append(append([]byte{}, right...), 0),
		"the empty list":           node(),
		"three items":              node(rlp.Num(1), rlp.Num(1), hash),
		"five items":               node(rlp.Num(1), rlp.Num(1), hash, hash, hash),
		"a nonce that is a list":   node(rlp.List(), rlp.Num(1), hash, hash),
		"a nonce with a nought":    node(rlp.Str([]byte{0}), rlp.Num(1), hash, hash),
		"a nonce with one ahead":   node(rlp.Str([]byte{0, 1}), rlp.Num(1), hash, hash),
		"a nonce of 9 bytes":       node(bytesOf(9), rlp.Num(1), hash, hash),
		"a balance that is a list": node(rlp.Num(1), rlp.List(rlp.Num(1)), hash, hash),
		"a balance with a nought":  node(rlp.Num(1), rlp.Str([]byte{0}), hash, hash),
		"a balance of 33 bytes":    node(rlp.Num(1), bytesOf(33), hash, hash),
		"a root of 31 bytes":       node(rlp.Num(1), rlp.Num(1), short, hash),
		"a root of 33 bytes":       node(rlp.Num(1), rlp.Num(1), long, hash),
		"a root that is nothing":   node(rlp.Num(1), rlp.Num(1), rlp.Str(nil), hash),
		"a root that is a list":    node(rlp.Num(1), rlp.Num(1), rlp.List(hash), hash),
		"a hash of 31 bytes":       node(rlp.Num(1), rlp.Num(1), hash, short),
		"a hash of 33 bytes":       node(rlp.Num(1), rlp.Num(1), hash, long),
		"a hash that is nothing":   node(rlp.Num(1), rlp.Num(1), hash, rlp.Str(nil)),
		"a hash that is a list":    node(rlp.Num(1), rlp.Num(1), hash, rlp.List(hash)),
		"an empty account's":       node(rlp.Num(0), rlp.Num(0), hash, rlp.Str(none[:])),
	}
}

// P1101: what is told and is no account's node.
func TestNoAccount(t *testing.T) {
	p := newPlain()
	p.SetNonce(addr(2), 7)
	right, _ := plainNode(p.accounts[addr(2)])
	one, two := addr(1), addr(2)
	for what, wrong := range wrongNodes() {
		root, l := plainTree(map[string][]byte{string(one[:]): wrong, string(two[:]): right})
		st := newStore()
		st.add(t, l)
		for name, call := range calls() {
			s := state.Open(root, st.tell)
			call(s, two, num(1))
			is(t, what+": "+name+" of another one", s.Err(), api.OK)
			call(s, one, num(1))
			zero(t, what+": "+name, s, api.ErrGone)
		}
	}
}

// P1101: what is told and is no slot's value.
func TestNoSlot(t *testing.T) {
	for what, wrong := range map[string][]byte{
		"a list":                encoded(rlp.List(rlp.Num(1))),
		"0":                     encoded(rlp.Num(0)),
		"a nought":              {0},
		"a nought ahead":        {0x82, 0, 1},
		"33 bytes":              encoded(rlp.Str([]byte(strings.Repeat("\x01", 33)))),
		"no encoding":           {0x81, 1},
		"one that ends early":   {0x82, 1},
		"one with a byte ahead": {1, 1},
	} {
		storage, l := plainTree(map[string][]byte{string(word.Bytes(num(1))): wrong, string(word.Bytes(num(2))): {7}})
		code := keccak.Sum(nil)
		a := addr(1)
		root, more := plainTree(map[string][]byte{string(a[:]): encoded(rlp.List(rlp.Num(1), rlp.Num(1), rlp.Str(storage[:]), rlp.Str(code[:])))})
		st := newStore()
		st.add(t, l)
		st.add(t, more)
		for name, call := range calls() {
			s := state.Open(root, st.tell)
			is(t, what+": another one", fmt.Sprint(s.Slot(a, num(2)), s.Slot(a, num(3)), s.Err()), fmt.Sprint(num(7), num(0), api.OK))
			call(s, a, num(1))
			if strings.HasPrefix(name, "slot") {
				zero(t, what+": "+name, s, api.ErrGone)
			} else {
				is(t, what+": "+name, s.Err(), api.OK)
			}
		}
	}
}

// P1101: what is told and is no node of a tree.
func TestNoNode(t *testing.T) {
	for _, wrong := range [][]byte{nil, {1}, {0xc0}, {0xff}} {
		for name, call := range calls() {
			s := state.Open(api.Hash{1}, func(api.Hash) ([]byte, bool) { return wrong, true })
			call(s, addr(1), num(1))
			zero(t, fmt.Sprintf("%x: %s", wrong, name), s, api.ErrGone)
		}
	}
}
