package state_test

import (
	"bytes"
	"encoding/hex"
	"fmt"
	"testing"

	"conclave/api"
	"conclave/keccak"
	"conclave/state"
	"conclave/trie"
	"conclave/word"
)

// is: as it should be.
func is(t *testing.T, what string, got, want any) {
	t.Helper()
	if got, want := fmt.Sprint(got), fmt.Sprint(want); got != want {
		t.Errorf("%s: %.300s, not %.300s", what, got, want)
	}
}

func addr(c byte) api.Addr  { return api.Addr{19: c} }
func num(n uint64) api.Word { return api.Word{n} }
func top() api.Word         { return word.Not(api.Word{}) }

// fresh: a state without accounts.
func fresh() *state.State { return state.Open(trie.Empty(), nil) }

// store: nodes and codes by their hashes, and which of them were asked for.
type store struct {
	told  map[api.Hash][]byte
	asked map[api.Hash]int
}

func newStore() *store {
	return &store{told: map[api.Hash][]byte{}, asked: map[api.Hash]int{}}
}

// tell: what a state is opened with.
func (s *store) tell(h api.Hash) ([]byte, bool) {
	s.asked[h]++
	b, ok := s.told[h]
	return b, ok
}

// add: what Root told, checked: hashes are those of what they stand for, and nothing is told twice.
func (s *store) add(t *testing.T, l []trie.Node) {
	t.Helper()
	seen := map[api.Hash]bool{}
	for _, n := range l {
		if n.Hash != keccak.Sum(n.Enc) {
			t.Errorf("told with another hash: %x, %x", n.Hash, n.Enc)
		}
		if seen[n.Hash] {
			t.Errorf("told twice: %x", n.Enc)
		}
		seen[n.Hash] = true
		s.told[n.Hash] = n.Enc
	}
}

// storeOf: the root of accounts, with all that there is to tell.
func storeOf(p *plain) (api.Hash, *store) {
	s := newStore()
	root, l := p.Root()
	for _, n := range l {
		s.told[n.Hash] = n.Enc
	}
	return root, s
}

// zero: a state of which all that is asked is zero, but Err, and that nothing changes.
func zero(t *testing.T, what string, s *state.State, err api.Errno) {
	t.Helper()
	for _, turn := range []string{"", " again"} {
		for _, a := range []api.Addr{{}, addr(1), addr(2), addr(3)} {
			is(t, what+": looks"+turn, looks(s, a, num(1)), looks(newPlain(), a, num(1)))
			is(t, what+": warm"+turn, fmt.Sprint(s.Warm(a), s.Warm(a), s.WarmSlot(a, num(1)), s.WarmSlot(a, num(1))), "false false false false")
			s.SetBalance(a, num(1))
			s.SetNonce(a, 1)
			s.SetCode(a, []byte{1})
			s.SetSlot(a, num(1), num(1))
		}
		s.AddRefund(1)
		s.Log(api.Log{Data: []byte{1}})
		is(t, what+": Refund, Logs, Snapshot"+turn, fmt.Sprint(s.Refund(), len(s.Logs()), s.Snapshot(), s.Snapshot()), "0 0 0 0")
		h, l := s.Root()
		is(t, what+": Root"+turn, fmt.Sprint(h, len(l)), fmt.Sprint(api.Hash{}, 0))
		is(t, what+": Err"+turn, s.Err(), err)
		s.Begin()
		is(t, what+": Err behind Begin"+turn, s.Err(), err)
	}
}

// looks: what is asked of an account and a slot.
func looks(s face, a api.Addr, k api.Word) string {
	return fmt.Sprintf("%v %v %v %x %x %v %v", s.Exists(a), s.Balance(a), s.Nonce(a), s.Code(a), s.CodeHash(a), s.Slot(a, k), s.Original(a, k))
}

// same: a state that has what the words say, for these addresses and keys, and the same root.
func same(t *testing.T, what string, s *state.State, p *plain, addrs []api.Addr, keys []api.Word) {
	t.Helper()
	for _, a := range addrs {
		for _, k := range keys {
			if got, want := looks(s, a, k), looks(p, a, k); got != want {
				t.Errorf("%s: %x, slot %x: %.300s, not %.300s", what, a, k, got, want)
			}
		}
	}
	is(t, what+": Refund", s.Refund(), p.Refund())
	is(t, what+": Logs", s.Logs(), p.Logs())
	sameRoot(t, what, s, p)
	is(t, what+": Err", s.Err(), api.OK)
}

func sameRoot(t *testing.T, what string, s *state.State, p *plain) {
	t.Helper()
	got, _ := s.Root()
	if want, _ := p.Root(); got != want {
		t.Errorf("%s: Root: %x, not %x", what, got, want)
	}
}

// P1104, example 1: the root without accounts.
func TestExample(t *testing.T) {
	h, l := fresh().Root()
	if h != trie.Empty() || len(l) != 0 {
		t.Errorf("Root without accounts: %x, %d nodes", h, len(l))
	}
}

// P1104: a root that other programs tell of such accounts: balances of 22 and 44, and a code of seven bytes.
func TestKnownRoot(t *testing.T) {
	s := fresh()
	s.SetBalance(addr(1), num(22))
	s.SetCode(api.Addr{18: 1, 19: 2}, bytes.Repeat([]byte{3}, 7))
	s.SetBalance(addr(2), num(44))
	h, _ := s.Root()
	is(t, "Root", hex.EncodeToString(h[:]), "71edff0130dd2385947095001c73d9e28d862fc286fca2b922ca6f6f3cddfdd2")
	h = s.CodeHash(api.Addr{18: 1, 19: 2})
	is(t, "CodeHash", hex.EncodeToString(h[:]), "87874902497a5bb968da31a2998d8f22e949d1ef6214bcdedd8bae24cca4b9e3")
	h = s.CodeHash(addr(1))
	is(t, "CodeHash without code", hex.EncodeToString(h[:]), "c5d2460186f7233c927e7db2dcc703c0e500b653ca82273b7bfad8045d85a470")
}

// P1101 to P1104: every call of nil.
func TestNil(t *testing.T) {
	var s *state.State
	zero(t, "nil", s, api.ErrNil)
	for _, id := range []int{-1, 0, 1} {
		is(t, "Revert of nil", s.Revert(id), api.ErrNil)
	}
}
