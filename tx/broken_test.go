package tx_test

import (
	"fmt"
	"maps"
	"slices"
	"testing"

	"conclave/api"
	"conclave/state"
	"conclave/tx"
)

// without: what a store tells but for one node.
func (m store) without(h api.Hash) store {
	out := maps.Clone(m)
	delete(out, h)
	return out
}

// needy: a world whose contract reads slots, asks friend's balance, calls another contract and ends well; and all it tells.
func needy() (api.Hash, store) {
	inner := addr(0x1e)
	s := world(code(1, SLOAD, POP, friend, BALANCE, POP, 0, 0, 0, 0, 1, inner, 30000, CALL), func(s *state.State) {
		s.SetCode(inner, code(1, 1, SSTORE, 0, 0, LOG0))
		s.SetBalance(friend, num(5))
		s.SetBalance(proposer, num(6))
		s.SetBalance(poor, num(plenty))
		for i := range 6 {
			s.SetNonce(addr(byte(i+1)), 1)
		}
	})
	root, nodes := s.Root()
	if len(nodes) > 0 {
		panic("not all is told ahead")
	}
	return root, everything.reached(root)
}

// reached: the nodes of a root, its storages and codes; told are all that the state asks for when it is gone through.
func (m store) reached(root api.Hash) store {
	out := store{}
	s := state.Open(root, func(h api.Hash) ([]byte, bool) {
		out[h] = m[h]
		return m.tell(h)
	})
	accounts := []api.Addr{rich, poor, proposer, friend, contract, addr(0x1e)}
	for i := range 6 {
		accounts = append(accounts, addr(byte(i+1)))
	}
	for _, a := range accounts {
		s.Code(a)
		s.Slot(a, num(1))
		s.Slot(a, num(2))
	}
	return out
}

// gone: a broken state tells nothing any more.
func gone(t *testing.T, what string, s *state.State) {
	t.Helper()
	root, nodes := s.Root()
	is(t, what+": broken", fmt.Sprint(int(s.Err()), has(s, rich, proposer), root, len(nodes), len(s.Logs())), fmt.Sprint(int(api.ErrGone), "0:0 0:0 ", api.Hash{}, 0, 0))
}

// P1403: a state that is broken at the beginning, already or by what is asked of the sender.
func TestBrokenAtTheBeginning(t *testing.T) {
	free := by(2, api.Tx{Gas: 21000, To: friend})
	for _, x := range []api.Tx{
		free,
		by(2, api.Tx{Gas: 21000, To: friend, Price: 1}),
		by(2, api.Tx{Gas: 21000, To: friend, Value: top()}),
		by(2, api.Tx{Gas: 60000, Create: true}),
		by(2, api.Tx{Gas: 21000, To: friend, Nonce: 3}),
		call(nil),
	} {
		for _, already := range []bool{true, false} {
			s := state.Open(api.Hash{1}, nil)
			if already {
				s.Balance(friend)
			}
			is(t, "broken", s.Err() != api.OK, already)
			received(t, "Apply", applied(s, x), left(api.ErrGone))
			gone(t, "Apply", s)
			received(t, "Apply again", applied(s, x), left(api.ErrGone))
		}
	}
}

// P1403: what is against a transaction ahead of all that is asked of a state is told of a broken one, too.
func TestBrokenOrder(t *testing.T) {
	s := state.Open(api.Hash{1}, nil)
	x := call(nil)
	received(t, "too little room", tx.Apply(s, around, x, 99999), left(api.ErrFee))
	is(t, "nothing was asked", int(s.Err()), 0)
	s.Balance(friend)
	received(t, "too little room, broken", tx.Apply(s, around, x, 99999), left(api.ErrFee))
	x.Sig[0]++
	received(t, "forged, broken", applied(s, x), left(api.ErrSig))
}

// P1403: each node and each code missing in turn: what needs it is skipped with ErrGone, wherever that is; what does not is carried out as with all.
func TestBrokenInTurn(t *testing.T) {
	root, all := needy()
	for what, x := range map[string]api.Tx{
		"a call":     call(nil),
		"a payment":  by(1, api.Tx{Nonce: 5, Price: 1, Gas: 30000, To: friend, Value: num(1)}),
		"a creation": by(1, api.Tx{Nonce: 5, Price: 1, Gas: 90000, Create: true, Data: code(friend, BALANCE)}),
		"a bad end":  by(1, api.Tx{Nonce: 5, Price: 1, Gas: 90000, Create: true, Data: code(friend, BALANCE, INVALID)}),
	} {
		want := applied(state.Open(root, all.tell), x)
		is(t, what, want.Skipped, false)
		met := map[bool]int{}
		for h := range all {
			s := state.Open(root, all.without(h).tell)
			r := applied(s, x)
			broken := s.Err() != api.OK
			met[broken]++
			if broken {
				received(t, what+", a node is missing", r, left(api.ErrGone))
				gone(t, what, s)
			} else {
				received(t, what+", another node is missing", r, want)
			}
		}
		if met[true] < 4 || met[false] < 2 {
			t.Errorf("%s: just so many: %v", what, met)
		}
	}
}

// P1403: nodes that break the state just in the midst, in the machine, and just at the end, as who proposes is paid.
func TestBrokenWhere(t *testing.T) {
	root, all := needy()
	x := call(nil)
	met := map[string]int{}
	for h := range all {
		told := all.without(h).tell
		missing := func(ask func(s *state.State)) bool {
			s := state.Open(root, told)
			ask(s)
			return s.Err() != api.OK
		}
		where := ""
		switch {
		case missing(func(s *state.State) { s.Balance(rich) }):
			where = "the sender"
		case missing(func(s *state.State) { s.Code(contract) }):
			where = "the code"
		case missing(func(s *state.State) { s.Slot(contract, num(1)) }):
			where = "the slot"
		case missing(func(s *state.State) { s.Code(addr(0x1e)); s.Balance(friend) }):
			where = "what is called"
		case missing(func(s *state.State) { s.Balance(proposer) }):
			where = "who proposes"
		default:
			continue
		}
		met[where]++
		received(t, where, applied(state.Open(root, told), x), left(api.ErrGone))
	}
	is(t, "met", slices.Sorted(maps.Keys(met)), []string{"the code", "the sender", "the slot", "what is called", "who proposes"})
}

// P1404: of a block whose state breaks in the midst, the rest is skipped with ErrGone, but for what can't be read.
func TestBrokenBlock(t *testing.T) {
	root, all := needy()
	first := by(2, api.Tx{Price: 1, Gas: 30000, To: addr(1)})
	b := [][]byte{plainEncode(first), plainEncode(call(nil)), {}, plainEncode(by(2, api.Tx{Nonce: 1, Price: 1, Gas: 30000, To: addr(1)}))}
	met := 0
	for h := range all {
		told := all.without(h).tell
		alone := state.Open(root, told)
		if applied(alone, first).Skipped {
			continue
		}
		s := state.Open(root, told)
		l := tx.Block(s, around, b)
		if s.Err() == api.OK {
			continue
		}
		met++
		received(t, "the first", l[0], api.Receipt{Used: 21000})
		received(t, "the second", l[1], left(api.ErrGone))
		received(t, "no bytes", l[2], left(api.ErrEnd))
		received(t, "the last", l[3], left(api.ErrGone))
	}
	if met < 3 {
		t.Errorf("just so many: %d", met)
	}
}
