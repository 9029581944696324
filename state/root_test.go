package state_test

import (
	"fmt"
	"maps"
	"math/rand/v2"
	"reflect"
	"slices"
	"strings"
	"testing"

	"conclave/api"
	"conclave/keccak"
	"conclave/state"
	"conclave/trie"
	"conclave/word"
)

// addrs, keys: those that some has, and others.
func addrs() []api.Addr {
	var l []api.Addr
	for c := range byte(26) {
		l = append(l, addr(c))
	}
	return l
}

func keys() []api.Word { return []api.Word{num(0), num(1), num(3), num(20), num(99), top()} }

// P1104: Root of accounts of each kind is what the words say, and a state opened with what was told is the same.
func TestRoots(t *testing.T) {
	for name, lay := range map[string]func(s face){
		"none":  func(face) {},
		"one":   func(s face) { s.SetBalance(addr(1), num(1)) },
		"empty": func(s face) { s.SetSlot(addr(1), num(1), num(1)) },
		"empty, set to zero": func(s face) {
			s.SetBalance(addr(1), num(0))
			s.SetNonce(addr(2), 0)
			s.SetCode(addr(3), nil)
		},
		"empty beside another": func(s face) {
			s.SetSlot(addr(1), num(1), num(1))
			s.SetBalance(addr(2), num(1))
		},
		"slots set back": func(s face) {
			s.SetNonce(addr(1), 1)
			s.SetSlot(addr(1), num(1), num(1))
			s.SetSlot(addr(1), num(2), num(1))
			s.SetSlot(addr(1), num(1), num(0))
			s.SetSlot(addr(1), num(2), num(0))
		},
		"alike": func(s face) {
			for _, a := range addrs() {
				s.SetNonce(a, 1)
				s.SetCode(a, []byte(strings.Repeat("c", 50)))
				for _, k := range keys() {
					s.SetSlot(a, k, top())
				}
			}
		},
		"a code that is a node": func(s face) {
			p := newPlain()
			p.SetNonce(addr(1), 1)
			_, l := p.Root()
			s.SetNonce(addr(1), 1)
			s.SetCode(addr(2), l[0].Enc)
			s.SetCode(addr(3), l[0].Enc)
		},
		"some": func(s face) {
			for a, x := range some().accounts {
				s.SetBalance(a, x.balance)
				s.SetNonce(a, x.nonce)
				s.SetCode(a, []byte(x.code))
				for k, v := range x.slots {
					s.SetSlot(a, k, v)
				}
			}
		},
	} {
		s, p := fresh(), newPlain()
		lay(s)
		lay(p)
		same(t, name, s, p, addrs(), keys())
		root, l := s.Root()
		st := newStore()
		st.add(t, l)
		same(t, name+", opened", state.Open(root, st.tell), p.opened(), addrs(), keys())
	}
}

// P1104: Root leaves the state as it was; what is warm and the snapshots too; and Begin is not done.
func TestRootChangesNothing(t *testing.T) {
	a := addr(1)
	for kind, s := range both(t, func(s face) {
		s.SetBalance(a, num(5))
		s.SetSlot(a, num(1), num(6))
	}) {
		s.Begin()
		s.Warm(a)
		s.WarmSlot(a, num(1))
		s.AddRefund(7)
		s.Log(api.Log{Data: []byte{8}})
		s.SetSlot(a, num(2), num(9))
		s.SetBalance(a, num(0))
		id := s.Snapshot()
		s.SetBalance(a, num(10))
		s.SetSlot(a, num(2), num(11))
		s.SetSlot(addr(2), num(1), num(12))
		first, l := s.Root()
		for range 3 {
			h, m := s.Root()
			if h != first || !reflect.DeepEqual(l, m) {
				t.Errorf("%s: Root again: %x, not %x", kind, h, first)
			}
		}
		is(t, kind+": slots", fmt.Sprint(s.Slot(a, num(1)), s.Slot(a, num(2)), s.Original(a, num(2)), s.Slot(addr(2), num(1))), fmt.Sprint(num(6), num(11), num(0), num(12)))
		is(t, kind+": Revert", s.Revert(id), api.OK)
		is(t, kind+": taken back", fmt.Sprint(s.Balance(a), s.Slot(a, num(1)), s.Slot(a, num(2)), s.Slot(addr(2), num(1))), fmt.Sprint(num(0), num(6), num(9), num(0)))
		sameRoot(t, kind, s, newPlain())
		is(t, kind+": slots of an empty account", s.Slot(a, num(1)), num(6))
		is(t, kind+": warm", fmt.Sprint(s.Warm(a), s.WarmSlot(a, num(1)), s.Refund(), len(s.Logs())), "true true 7 1")
		s.SetBalance(a, num(5))
		p := newPlain()
		p.SetBalance(a, num(5))
		p.SetSlot(a, num(1), num(6))
		p.SetSlot(a, num(2), num(9))
		sameRoot(t, kind+", not empty any more", s, p)
	}
}

// P1104: Root tells all that was made since Open, not since the last Root, and what is wanted still.
func TestRootTellsAll(t *testing.T) {
	p := some()
	root, st := storeOf(p)
	s := state.Open(root, st.tell)
	for i, c := range []byte{1, 5, 6, 11, 25, 1} {
		for _, x := range []face{s, p} {
			x.SetCode(addr(c), []byte(fmt.Sprint("code ", i)))
			x.SetSlot(addr(c), num(3), num(uint64(c)*1000))
			x.SetSlot(addr(c), num(4), num(0))
		}
		h, l := s.Root()
		more := newStore()
		maps.Copy(more.told, st.told)
		more.add(t, l)
		same(t, fmt.Sprint("change ", i), state.Open(h, more.tell), p.opened(), addrs(), keys())
		s.Begin()
	}
}

// P1104, rule 5: the same calls tell the same, in the same order.
func TestRootOrder(t *testing.T) {
	told := func() (api.Hash, []trie.Node) {
		s := fresh()
		for c := range byte(40) {
			s.SetNonce(addr(c), 1)
			s.SetCode(addr(c), []byte{c + 1})
			for k := range uint64(5) {
				s.SetSlot(addr(c), num(k*k), num(k+uint64(c)))
			}
		}
		return s.Root()
	}
	h, l := told()
	for range 5 {
		if g, m := told(); g != h || !reflect.DeepEqual(l, m) {
			t.Error("the same calls tell another Root")
		}
	}
}

// drawChange: a change of a drawn account to what another state has there.
func drawChange(r *rand.Rand, to *plain) func(s face) {
	a := addrs()[r.IntN(26)]
	x := to.accounts[a]
	switch r.IntN(4) {
	case 0:
		return func(s face) { s.SetBalance(a, x.balance) }
	case 1:
		return func(s face) { s.SetNonce(a, x.nonce) }
	case 2:
		return func(s face) { s.SetCode(a, []byte(x.code)) }
	}
	k := num(r.Uint64N(26))
	return func(s face) { s.SetSlot(a, k, x.slots[k]) }
}

// P1105: the root hangs on the accounts alone, whatever the order of sets, whatever was set and taken back between, and wherever the state was opened.
func TestRootHangsOnAccounts(t *testing.T) {
	r := rand.New(rand.NewPCG(11, 1))
	to := some()
	want, all := storeOf(to)
	for round := range 12 {
		s := fresh()
		for range r.IntN(60) { // what is on the way and must not be seen at the end
			drawChange(r, to)(s)
			s.SetSlot(addr(byte(r.IntN(30))), num(r.Uint64N(30)), num(r.Uint64N(3)))
			s.SetNonce(addr(byte(r.IntN(30))), r.Uint64N(3))
		}
		if round%3 == 1 {
			s.Begin()
		}
		if round%3 == 2 {
			root, l := s.Root()
			st := newStore()
			st.add(t, l)
			s = state.Open(root, st.tell)
		}
		var sets []func()
		for c := range byte(30) {
			a := addr(c)
			x := to.accounts[a]
			sets = append(sets, func() { s.SetBalance(a, x.balance) }, func() { s.SetNonce(a, x.nonce) }, func() { s.SetCode(a, []byte(x.code)) })
			for k := range uint64(30) {
				sets = append(sets, func() { s.SetSlot(a, num(k), x.slots[num(k)]) })
			}
		}
		r.Shuffle(len(sets), func(i, j int) { sets[i], sets[j] = sets[j], sets[i] })
		for i, set := range sets {
			set()
			if i%50 == 0 {
				id := s.Snapshot()
				s.SetBalance(addr(byte(i)), top())
				s.SetSlot(addr(byte(i/30)), num(uint64(i%30)), num(99))
				s.SetCode(addr(byte(i/30)), []byte{1})
				if i%100 == 0 {
					s.Root()
				}
				is(t, "Revert", s.Revert(id), api.OK)
			}
		}
		if got, _ := s.Root(); got != want {
			t.Errorf("round %d: Root: %x, not %x", round, got, want)
		}
	}
	if len(all.told) < 50 {
		t.Errorf("too few nodes: %d", len(all.told))
	}
}

// P1105: a state that is opened with a root goes on with the same roots as the one that goes on itself.
func TestGoesOn(t *testing.T) {
	r := rand.New(rand.NewPCG(11, 2))
	s, to := fresh(), some()
	st := newStore()
	for range 25 {
		root, l := s.Root()
		st.add(t, l)
		opened := state.Open(root, st.tell)
		s.Begin()
		for range 20 {
			do := drawChange(r, to)
			do(s)
			do(opened)
		}
		g, _ := s.Root()
		h, _ := opened.Root()
		if g != h {
			t.Fatalf("Root: %x, but opened %x", g, h)
		}
	}
}

// byNibble: an address for each of three nibbles that the hashes of addresses begin with.
func byNibble() [3]api.Addr {
	var out [3]api.Addr
	for c := byte(255); c > 0; c-- {
		a := addr(c)
		if h := keccak.Sum(a[:]); h[0]>>4 < 3 {
			out[h[0]>>4] = a
		}
	}
	return out
}

// noRoot: Root itself, if nothing ahead of it, breaks the state.
func noRoot(t *testing.T, what string, s *state.State) {
	t.Helper()
	h, l := s.Root()
	is(t, what+": Root", fmt.Sprint(h, len(l)), fmt.Sprint(api.Hash{}, 0))
	zero(t, what, s, api.ErrGone)
}

// P1101, P1104: Root wants the node that is left alone in a branch; where another account comes in, it does not.
func TestRootWants(t *testing.T) {
	l := byNibble()
	p := newPlain()
	p.SetBalance(l[0], num(1))
	p.SetBalance(l[1], num(1))
	root, st := storeOf(p)
	open := func(lost api.Addr) *state.State {
		kept := map[api.Hash]int{root: 1}
		for _, a := range l {
			if a != lost {
				maps.Copy(kept, asked(st, root, a[:]))
			}
		}
		return state.Open(root, func(h api.Hash) ([]byte, bool) { return st.told[h], kept[h] > 0 })
	}
	s := open(l[0])
	s.SetBalance(l[1], num(0))
	is(t, "Err ahead of Root", s.Err(), api.OK)
	noRoot(t, "left alone", s)

	for _, i := range [][]int{{0, 1}, {1, 0}} {
		q := newPlain()
		q.SetBalance(l[i[0]], num(1))
		s = open(l[i[0]])
		for _, x := range []face{s, q} {
			x.SetBalance(l[i[1]], num(0))
			x.SetBalance(l[2], num(1))
		}
		sameRoot(t, "another comes in", s, q)
		is(t, "another comes in: Err", s.Err(), api.OK)
	}
}

// P1101, P1104: the same of a storage's slots.
func TestStorageWants(t *testing.T) {
	var k [3]api.Word
	for n := uint64(99); n > 0; n-- {
		if h := keccak.Sum(word.Bytes(num(n))); h[0]>>4 < 3 {
			k[h[0]>>4] = num(n)
		}
	}
	p := newPlain()
	p.SetNonce(addr(1), 1)
	p.SetSlot(addr(1), k[0], top())
	p.SetSlot(addr(1), k[1], top())
	root, st := storeOf(p)
	lost := wants(st, root, p, "slot", addr(1), k[0])
	for h := range wants(st, root, p, "slot", addr(1), k[1]) {
		delete(lost, h)
	}
	is(t, "nodes of one slot alone", len(lost), 1)
	for _, comes := range []bool{false, true} {
		s := state.Open(root, func(h api.Hash) ([]byte, bool) { return st.told[h], lost[h] == 0 })
		q := p.copy()
		for _, x := range []face{s, q} {
			x.SetSlot(addr(1), k[1], num(0))
			if comes {
				x.SetSlot(addr(1), k[2], num(1))
			}
		}
		is(t, "Err ahead of Root", s.Err(), api.OK)
		if comes {
			sameRoot(t, "another comes in", s, q)
			continue
		}
		noRoot(t, "left alone", s)
	}
}

// P1101, P1104: changes and Root of a state of which one thing is not told: the root is right, or the state is broken just since that was asked for.
func TestRootMissing(t *testing.T) {
	p := some()
	root, st := storeOf(p)
	r := rand.New(rand.NewPCG(11, 3))
	met := map[api.Errno]int{}
	for range 8 {
		var changes []func(s face)
		for range 12 {
			changes = append(changes, drawChange(r, newPlain()))
		}
		q := p.copy()
		whole := newStore()
		whole.told = st.told
		s := state.Open(root, whole.tell)
		for _, do := range changes {
			do(s)
			do(q)
		}
		sameRoot(t, "all told", s, q)
		for _, lost := range slices.SortedFunc(maps.Keys(st.told), func(a, b api.Hash) int { return slices.Compare(a[:], b[:]) }) {
			s := state.Open(root, func(h api.Hash) ([]byte, bool) { return st.told[h], h != lost })
			for _, do := range changes {
				do(s)
			}
			if whole.asked[lost] > 0 {
				noRoot(t, "wanted", s)
				met[s.Err()]++
				continue
			}
			h, _ := s.Root()
			met[s.Err()]++
			want, _ := q.Root()
			is(t, "not wanted", fmt.Sprint(h, s.Err()), fmt.Sprint(want, api.OK))
		}
	}
	if met[api.OK] < 50 || met[api.ErrGone] < 50 {
		t.Errorf("too few: %v", met)
	}
}
