package evm_test

import (
	"bytes"
	"fmt"
	"math"
	"math/rand/v2"
	"testing"

	"conclave/api"
	"conclave/evm"
	"conclave/rlp"
	"conclave/state"
	"conclave/trie"
	"conclave/word"
)

// held: what a state holds, but for what is warm: its root, refund and logs.
func held(s *state.State) string {
	root, _ := s.Root()
	return fmt.Sprintf("%x %d %x", root, s.Refund(), s.Logs())
}

// leaves: errors with which gas may be left.
func leaves(err api.Errno) bool {
	return err == api.OK || err == api.ErrRevert || err == api.ErrDeep || err == api.ErrFunds || err == api.ErrNonce
}

// total: of all balances, modulo 2^256, as the state's tree has them.
func total(t *testing.T, s *state.State) api.Word {
	t.Helper()
	root, nodes := s.Root()
	told := map[api.Hash][]byte{}
	for _, n := range nodes {
		told[n.Hash] = n.Enc
	}
	pairs, err := trie.Open(root, func(h api.Hash) ([]byte, bool) { b, ok := told[h]; return b, ok }).All()
	is(t, "All", int(err), 0)
	sum := api.Word{}
	for _, p := range pairs {
		x, err := rlp.Decode(p.Val)
		is(t, "Decode", int(err), 0)
		balance, err := rlp.Word(x.Items[1])
		is(t, "Word", int(err), 0)
		sum = word.Add(sum, balance)
	}
	return sum
}

// P1303, P1304: of drawn codes and messages, the laws by themselves.
func TestLaws(t *testing.T) {
	d := drawer{rand.New(rand.NewPCG(13, 3))}
	met := map[string]int{}
	for round := range 1500 {
		s, _ := d.both()
		if d.IntN(2) == 0 { // balances that go round
			s.SetBalance(addr(1), word.Sub(top(), num(d.Uint64N(9))))
		}
		s.Log(api.Log{Addr: addr(9)})
		s.AddRefund(-4)
		for i := range 3 {
			m := d.message()
			what := fmt.Sprintf("round %d, message %d, %+v", round, i, m)
			before, sum, nonce := held(s), total(t, s), s.Nonce(m.Caller)
			out := evm.Call(s, someEnv, m)
			if m.Create && s.Nonce(m.Caller) != nonce && out.Err != api.OK { // that alone may have changed
				is(t, what+": nonce", s.Nonce(m.Caller), nonce+1)
				met["nonce"]++
				s.SetNonce(m.Caller, nonce)
				is(t, what+": all but the nonce", held(s), before)
				s.SetNonce(m.Caller, nonce+1)
			} else if out.Err != api.OK || m.Static && word.Zero(m.Value) && !m.Create {
				is(t, what+": all", held(s), before)
				met[fmt.Sprint("static ", out.Err == api.OK)]++
			}
			if out.Left > m.Gas || out.Left != 0 && !leaves(out.Err) {
				t.Errorf("%s: left are %d, error %d", what, out.Left, int(out.Err))
			}
			if out.Err != api.OK && (out.Made != api.Addr{} || out.Err != api.ErrRevert && len(out.Data) > 0) {
				t.Errorf("%s: %+v", what, out)
			}
			is(t, what+": all balances", total(t, s), sum)
			if t.Failed() {
				return
			}
			met[fmt.Sprint(int(out.Err))]++
		}
	}
	for _, want := range []string{"0", "50", "51", "52", "53", "54", "55", "56", "57", "58", "61", "nonce", "static true", "static false"} {
		if met[want] < 10 {
			t.Errorf("too few draws met %q: %v", want, met)
		}
	}
}

// P1304: values that go round 2^256, and there and back.
func TestBalances(t *testing.T) {
	s := world(code(ask{gas: 0, to: purse, value: 3}.code(CALL), ask{gas: 0, to: self, value: 4}.code(CALL), 0, 0, 5, CREATE))
	s.SetBalance(purse, top())
	s.Begin()
	out := evm.Call(s, someEnv, evm.Msg{Caller: caller, To: self, Value: num(9), Gas: 200000})
	is(t, "Err", int(out.Err), 0)
	is(t, "balances", fmt.Sprint(s.Balance(caller), s.Balance(self), s.Balance(purse), s.Balance(evm.Address(self, 0))), fmt.Sprint(num(991), num(1001), num(2), num(5)))
	s.SetBalance(self, top())
	out = evm.Call(s, someEnv, evm.Msg{Caller: purse, To: self, Value: num(2), Gas: 0})
	is(t, "a message that fails behind the move", fmt.Sprint(int(out.Err), s.Balance(purse), s.Balance(self)), fmt.Sprint(50, num(2), top()))
	at := evm.Address(caller, 0)
	s.SetBalance(at, top())
	out = evm.Call(s, someEnv, evm.Msg{Caller: caller, Create: true, Value: num(2), Gas: 0})
	is(t, "a creation where a balance is", fmt.Sprint(int(out.Err), s.Balance(caller), s.Balance(at)), fmt.Sprint(0, num(989), num(1)))
}

// P1303: with each error of a frame nothing is left or given, and all is as it was.
func TestErrorsLeaveNothing(t *testing.T) {
	change := code(1, 1, SSTORE, 0, 0, LOG0, ask{gas: 0, to: purse, value: 3}.code(CALL), POP)
	for err, tail := range map[api.Errno][]byte{
		api.ErrGas: code(JUMPDEST, PC, 1, SWAP1, SUB, JUMP), api.ErrStack: code(ADD), api.ErrJump: code(0, JUMP), api.ErrOp: code(INVALID), api.ErrBounds: code(1, 0, 0, RETURNDATACOPY),
	} {
		for _, create := range []bool{false, true} {
			s := world(code(change, tail))
			before := held(s)
			out := evm.Call(s, someEnv, evm.Msg{Caller: caller, To: self, Gas: 100000, Value: num(4), Create: create, Data: code(change, tail)})
			fails(t, fmt.Sprint("error ", int(err), ", creation ", create), out, err)
			if create {
				is(t, "the nonce", s.Nonce(caller), 1)
				s.SetNonce(caller, 0)
			}
			is(t, "all", held(s), before)
		}
	}
}

// P1302: of a nil state.
func TestNil(t *testing.T) {
	for _, m := range []evm.Msg{{}, {Gas: 5}, {Create: true, Gas: 5}, {Depth: 2000, Gas: 5}, {Value: num(1), Gas: 5}, {Static: true, Data: []byte{1}}} {
		fails(t, fmt.Sprintf("%+v", m), evm.Call(nil, someEnv, m), api.ErrNil)
	}
}

// P1302: a state that is broken at the beginning, and one that breaks at the first look; with ErrDeep nothing is looked at.
func TestBrokenAtFirst(t *testing.T) {
	for _, m := range []evm.Msg{{Gas: 5}, {Create: true, Gas: 5}, {Value: num(1), Gas: 5}, {Static: true, Gas: 5}, {Create: true, Value: num(1), Gas: 5, Data: code(INVALID)}, {To: self, Data: []byte{1}}} {
		s := state.Open(api.Hash{1}, nil)
		fails(t, fmt.Sprintf("%+v, breaking", m), evm.Call(s, someEnv, m), api.ErrGone)
		m.Depth = 1025
		fails(t, fmt.Sprintf("%+v, broken", m), evm.Call(s, someEnv, m), api.ErrGone)
		m.Depth = math.MaxInt
		out := evm.Call(state.Open(api.Hash{1}, nil), someEnv, m)
		is(t, fmt.Sprintf("%+v", m), fmt.Sprintf("%+v", out), fmt.Sprintf("%+v", evm.Out{Err: api.ErrDeep, Left: m.Gas}))
	}
}

// P1302: each node and code missing in turn: either it is not wanted, and nothing differs, or Err is the state's, and nothing is left. Codes that go round till a slot is no longer 0 end, too.
func TestBrokenLater(t *testing.T) {
	wait := code(JUMPDEST, 1, SLOAD, ISZERO, 0, JUMPI) // which without its slot goes on and on
	texts := map[string][]byte{
		"waits":     wait,
		"looks":     code(purse, BALANCE, other, EXTCODESIZE, other, EXTCODEHASH, 1, SLOAD, caller, BALANCE),
		"stores":    code(0, 1, SSTORE, 7, 2, SSTORE),
		"calls":     code(ask{gas: 100000, to: other, outSize: 32}.code(CALL), POP, 32, 0, RETURN),
		"delegates": code(ask{gas: 100000, to: other, outSize: 32}.code(DELEGATECALL), POP, 32, 0, RETURN),
		"copies":    code(32, 0, 0, other, EXTCODECOPY, 32, 0, RETURN),
		"sends":     code(ask{gas: 0, to: nobody, value: 1}.code(CALL), give()),
		"makes":     code(0, 0, 5, CREATE, give()),
		"reverts":   code(1, SLOAD, 0, 0, REVERT),
		"fails":     code(1, SLOAD, INVALID),
	}
	for name, text := range texts {
		s := with(text, code(1, SLOAD, give()))
		for a := range byte(20) {
			s.SetBalance(addr(a), num(5))
		}
		s.SetSlot(self, num(1), num(9))
		s.SetSlot(self, num(2), num(9))
		s.SetSlot(self, num(3), num(9))
		s.SetSlot(other, num(1), num(8))
		root, nodes := s.Root()
		broken, whole := 0, 0
		for missing := range nodes {
			told := map[api.Hash][]byte{}
			for i, n := range nodes {
				if i != missing {
					told[n.Hash] = n.Enc
				}
			}
			open := func() *state.State {
				return state.Open(root, func(h api.Hash) ([]byte, bool) { b, ok := told[h]; return b, ok })
			}
			for _, m := range []evm.Msg{{Caller: caller, To: self, Gas: 3000000}, {Caller: caller, Create: true, Data: text, Gas: 3000000}, {Caller: caller, To: self, Gas: 3000000, Value: num(2)}} {
				if m.Create && name == "waits" {
					m.Data = code(1, SLOAD)
				}
				got := open()
				out := evm.Call(got, someEnv, m)
				what := fmt.Sprintf("one that %s, node %d missing, %v", name, missing, m.Create)
				if got.Err() != api.OK {
					broken++
					fails(t, what, out, api.ErrGone)
					continue
				}
				whole++
				told[nodes[missing].Hash] = nodes[missing].Enc
				is(t, what, fmt.Sprintf("%+v", out), fmt.Sprintf("%+v", evm.Call(open(), someEnv, m)))
				delete(told, nodes[missing].Hash)
			}
		}
		if broken < 5 || whole < 5 {
			t.Errorf("%s: %d were broken, %d not", name, broken, whole)
		}
	}
}

// P1302: a state that is broken ends a frame soon, whatever gas there is.
func TestBrokenEnds(t *testing.T) {
	text := code(JUMPDEST, 1, SLOAD, ISZERO, 0, JUMPI)
	s := world(text)
	s.SetSlot(self, num(1), num(9))
	root, nodes := s.Root()
	told := map[api.Hash][]byte{}
	for _, n := range nodes {
		told[n.Hash] = n.Enc
	}
	open := func() *state.State {
		return state.Open(root, func(h api.Hash) ([]byte, bool) { b, ok := told[h]; return b, ok })
	}
	is(t, "with all told", int(callWith(open(), math.MaxUint64).Err), 0)
	broken := 0
	for _, n := range nodes {
		delete(told, n.Hash)
		s := open()
		s.Code(self)
		looked := s.Err() == api.OK
		out := callWith(s, math.MaxUint64)
		if s.Err() != api.OK {
			fails(t, "with one missing", out, api.ErrGone)
		}
		if looked && s.Err() != api.OK {
			broken++
		}
		told[n.Hash] = n.Enc
	}
	if broken == 0 {
		t.Error("nothing was missing as the code ran")
	}
}

// P1302: what is handed in stays as it was, its spare room too; what is handed out is new memory.
func TestMemoryOfMessages(t *testing.T) {
	room := append(code(CALLDATASIZE, 0, 0, CALLDATACOPY, CALLDATASIZE, 0, RETURN), 0xaa, 0xbb, 0xcc)
	was := bytes.Clone(room)
	data := room[:len(room)-3]
	echo := bytes.Clone(data)
	for _, create := range []bool{false, true} {
		s := world(echo)
		out := evm.Call(s, someEnv, evm.Msg{Caller: caller, To: self, Data: data, Gas: 100000, Create: create})
		is(t, "what was handed in", room, was)
		given := bytes.Clone(out.Data)
		for i := range out.Data[:cap(out.Data)] {
			out.Data[:cap(out.Data)][i] ^= 0x55
		}
		is(t, "what was handed in", room, was)
		if !create {
			is(t, "what was given", given, data)
			out = evm.Call(s, someEnv, evm.Msg{Caller: caller, To: self, Data: data, Gas: 100000})
			is(t, "again", out.Data, data)
		}
	}
	s := world(nil)
	first := append(givesBytes([]byte{1, 2, 3}), 0xee)
	out := evm.Call(s, someEnv, evm.Msg{Caller: caller, Create: true, Data: first, Gas: 100000})
	for i := range first {
		first[i] = 0xff
	}
	is(t, "the code that was laid", s.Code(out.Made), []byte{1, 2, 3})
	s = world(code(CALLDATASIZE, 0, 0, CALLDATACOPY, CALLDATASIZE, 0, LOG0, CALLDATASIZE, 0, REVERT))
	out = evm.Call(s, someEnv, evm.Msg{Caller: caller, To: self, Data: data, Gas: 100000})
	is(t, "what a revert gives", fmt.Sprint(int(out.Err), out.Data), fmt.Sprint(57, data))
}

// P1302: the same for the same: two machines over the same accounts, and one that is asked twice.
func TestSameAgain(t *testing.T) {
	d := drawer{rand.New(rand.NewPCG(13, 4))}
	for range 200 {
		s, _ := d.both()
		m := d.message()
		id := s.Snapshot()
		first := fmt.Sprintf("%+v %s", evm.Call(s, someEnv, m), held(s))
		is(t, "Revert", int(s.Revert(id)), 0)
		is(t, "again", fmt.Sprintf("%+v %s", evm.Call(s, someEnv, m), held(s)), first)
	}
}

// P1302: a message leaves the snapshots that were there ahead of it where they were.
func TestSnapshots(t *testing.T) {
	s := state.Open(trie.Empty(), nil)
	s.SetBalance(caller, num(50))
	s.SetCode(self, code(1, 1, SSTORE, ask{gas: 0, to: nobody, value: 1}.code(CALL)))
	s.Begin()
	before := held(s)
	id := s.Snapshot()
	out := evm.Call(s, someEnv, evm.Msg{Caller: caller, To: self, Value: num(5), Gas: 100000})
	is(t, "Err", int(out.Err), 0)
	is(t, "Revert", int(s.Revert(id)), 0)
	is(t, "all", held(s), before)
	is(t, "warm", fmt.Sprint(s.Warm(nobody), s.WarmSlot(self, num(1))), "false false")
}
