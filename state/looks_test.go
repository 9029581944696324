package state_test

import (
	"fmt"
	"strings"
	"testing"

	"conclave/api"
	"conclave/keccak"
	"conclave/state"
)

// both: a state that was just made, and one that was opened with its root and what was told.
func both(t *testing.T, lay func(s face)) map[string]*state.State {
	t.Helper()
	a := fresh()
	lay(a)
	root, l := a.Root()
	st := newStore()
	st.add(t, l)
	return map[string]*state.State{"made": a, "opened": state.Open(root, st.tell)}
}

// P1102: the looks of accounts of each kind: one that was never set, and those that have one thing alone.
func TestLooks(t *testing.T) {
	none := keccak.Sum(nil)
	code := keccak.Sum([]byte("code"))
	for name, x := range map[string]struct {
		lay  func(s face)
		want string
	}{
		"never set":      {func(face) {}, fmt.Sprintf("false %v 0  %x %v", num(0), api.Hash{}, num(0))},
		"a balance":      {func(s face) { s.SetBalance(addr(1), num(5)) }, fmt.Sprintf("true %v 0  %x %v", num(5), none, num(0))},
		"all balance":    {func(s face) { s.SetBalance(addr(1), top()) }, fmt.Sprintf("true %v 0  %x %v", top(), none, num(0))},
		"a high balance": {func(s face) { s.SetBalance(addr(1), api.Word{3: 1}) }, fmt.Sprintf("true %v 0  %x %v", api.Word{3: 1}, none, num(0))},
		"a nonce":        {func(s face) { s.SetNonce(addr(1), 1) }, fmt.Sprintf("true %v 1  %x %v", num(0), none, num(0))},
		"the top nonce":  {func(s face) { s.SetNonce(addr(1), 1<<64-1) }, fmt.Sprintf("true %v %d  %x %v", num(0), uint64(1<<64-1), none, num(0))},
		"a code":         {func(s face) { s.SetCode(addr(1), []byte("code")) }, fmt.Sprintf("true %v 0 %x %x %v", num(0), "code", code, num(0))},
		"all": {func(s face) {
			s.SetSlot(addr(1), num(7), num(9))
			s.SetCode(addr(1), []byte("code"))
			s.SetNonce(addr(1), 2)
			s.SetBalance(addr(1), num(3))
		}, fmt.Sprintf("true %v 2 %x %x %v", num(3), "code", code, num(9))},
		"another account": {func(s face) {
			s.SetSlot(addr(2), num(7), num(9))
			s.SetCode(addr(2), []byte("code"))
		}, fmt.Sprintf("false %v 0  %x %v", num(0), api.Hash{}, num(0))},
	} {
		for kind, s := range both(t, x.lay) {
			a := addr(1)
			got := fmt.Sprintf("%v %v %v %x %x %v", s.Exists(a), s.Balance(a), s.Nonce(a), s.Code(a), s.CodeHash(a), s.Slot(a, num(7)))
			is(t, name+", "+kind, got, x.want)
			is(t, name+", "+kind+": Err", s.Err(), api.OK)
		}
	}
}

// P1102: an account that is empty and has slots does not exist; a state that is opened has none of it.
func TestEmptyWithSlots(t *testing.T) {
	states := both(t, func(s face) { s.SetSlot(addr(1), num(7), num(9)) })
	for kind, want := range map[string]api.Word{"made": num(9), "opened": num(0)} {
		s := states[kind]
		is(t, kind, fmt.Sprint(s.Exists(addr(1)), s.CodeHash(addr(1)), s.Slot(addr(1), num(7))), fmt.Sprint(false, api.Hash{}, want))
	}
}

// P1102, P1103: slots are words for words of one account.
func TestSlots(t *testing.T) {
	words := []api.Word{num(0), num(1), num(0x7f), num(0x80), num(0xff), num(0x100), {1: 1}, {3: 1}, {3: 1 << 63}, top()}
	states := both(t, func(s face) {
		for i, k := range words {
			s.SetSlot(addr(1), k, words[len(words)-1-i])
			s.SetSlot(addr(2), k, num(uint64(i)))
		}
		s.SetNonce(addr(1), 1)
		s.SetNonce(addr(2), 1)
	})
	for kind, s := range states {
		for i, k := range words {
			is(t, kind, fmt.Sprint(s.Slot(addr(1), k), s.Slot(addr(2), k)), fmt.Sprint(words[len(words)-1-i], num(uint64(i))))
			is(t, kind+": of another account", s.Slot(addr(3), k), num(0))
		}
		is(t, kind+": another slot", s.Slot(addr(1), num(2)), num(0))
	}
}

// P1102, P1103: codes of any length, the same one at two accounts too.
func TestCodes(t *testing.T) {
	for _, n := range []int{1, 31, 32, 33, 55, 56, api.MaxCode, api.MaxCode + 1, api.MaxRlp + 1} {
		code := strings.Repeat("c", n)
		for kind, s := range both(t, func(s face) {
			s.SetCode(addr(1), []byte(code))
			s.SetCode(addr(2), []byte(code))
		}) {
			for _, a := range []api.Addr{addr(1), addr(2)} {
				if string(s.Code(a)) != code || s.CodeHash(a) != keccak.Sum([]byte(code)) {
					t.Errorf("%s: a code of %d bytes: %d, %x", kind, n, len(s.Code(a)), s.CodeHash(a))
				}
			}
		}
	}
}

// P1102: Original ahead of the first Begin, behind sets, behind Begin, behind Revert.
func TestOriginal(t *testing.T) {
	a, k := addr(1), num(7)
	for kind, s := range both(t, func(s face) {
		s.SetBalance(a, num(1))
		s.SetSlot(a, k, num(9))
	}) {
		opened := map[string]api.Word{"made": num(0), "opened": num(9)}[kind]
		is(t, kind+": ahead of Begin", s.Original(a, k), opened)
		s.SetSlot(a, k, num(10))
		s.SetSlot(a, k, num(11))
		is(t, kind+": behind sets", fmt.Sprint(s.Original(a, k), s.Slot(a, k)), fmt.Sprint(opened, num(11)))
		s.Begin()
		is(t, kind+": behind Begin", s.Original(a, k), num(11))
		s.SetSlot(a, k, num(0))
		is(t, kind+": behind a set to 0", fmt.Sprint(s.Original(a, k), s.Slot(a, k)), fmt.Sprint(num(11), num(0)))
		id := s.Snapshot()
		s.SetSlot(a, k, num(12))
		s.SetSlot(a, num(8), num(13))
		is(t, kind+": ahead of Revert", fmt.Sprint(s.Original(a, k), s.Original(a, num(8))), fmt.Sprint(num(11), num(0)))
		is(t, kind+": Revert", s.Revert(id), api.OK)
		is(t, kind+": behind Revert", fmt.Sprint(s.Original(a, k), s.Slot(a, k), s.Original(a, num(8))), fmt.Sprint(num(11), num(0), num(0)))
		s.SetSlot(a, num(8), num(14))
		is(t, kind+": set anew", s.Original(a, num(8)), num(0))
		s.Begin()
		is(t, kind+": behind another Begin", fmt.Sprint(s.Original(a, k), s.Original(a, num(8))), fmt.Sprint(num(0), num(14)))
		s.Root()
		is(t, kind+": behind Root", s.Original(a, num(8)), num(14))
		s.SetBalance(a, num(0))
		is(t, kind+": of an account that became empty", s.Original(a, num(8)), num(14))
		s.SetSlot(a, num(8), num(15))
		is(t, kind+": of a slot of an empty account", s.Original(a, num(8)), num(14))
		s.Begin()
		is(t, kind+": of one that was empty at Begin", s.Original(a, num(8)), num(0))
	}
}

// P1102, P1103: Original just behind Revert of the first set of a transaction, with the account not known ahead of that.
func TestOriginalFirst(t *testing.T) {
	a, k := addr(1), num(7)
	for kind, s := range both(t, func(s face) {
		s.SetNonce(a, 1)
		s.SetSlot(a, k, num(9))
		s.Begin()
	}) {
		for range 3 {
			id := s.Snapshot()
			s.SetSlot(a, k, num(10))
			s.SetSlot(a, k, num(11))
			is(t, kind+": set", fmt.Sprint(s.Original(a, k), s.Slot(a, k)), fmt.Sprint(num(9), num(11)))
			is(t, kind+": Revert", s.Revert(id), api.OK)
			is(t, kind+": taken back", fmt.Sprint(s.Original(a, k), s.Slot(a, k)), fmt.Sprint(num(9), num(9)))
		}
	}
}
