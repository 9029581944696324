package evm_test

import (
	"bytes"
	"fmt"
	"math"
	"math/rand/v2"
	"testing"

	"conclave/api"
	"conclave/evm"
	"conclave/state"
	"conclave/trie"
	"conclave/word"
)

// drawer: of codes, accounts and messages, out of few, so that they meet.
type drawer struct{ *rand.Rand }

func draw[T any](d drawer, l ...T) T { return l[d.IntN(len(l))] }

func (d drawer) word() api.Word {
	switch d.IntN(6) {
	case 0:
		return draw(d, num(0), num(1), top(), pow(255), word.Sub(pow(255), num(1)), pow(64), num(math.MaxUint64), num(256))
	case 1:
		return api.Word{d.Uint64(), d.Uint64(), d.Uint64(), d.Uint64()}
	}
	return num(d.Uint64N(40))
}

func (d drawer) account() api.Addr { return addr(byte(1 + d.IntN(6))) }

// place: of memory, or of bytes that are copied.
func (d drawer) place() api.Word {
	if d.IntN(40) == 0 {
		return draw(d, num(65535), num(65504), num(65536), num(math.MaxUint64), pow(64), top(), pow(128))
	}
	return num(d.Uint64N(100))
}

func (d drawer) size() api.Word {
	if d.IntN(40) == 0 {
		return draw(d, num(65535), num(65536), num(65537), num(49152), num(49153), num(math.MaxUint64), pow(64), top())
	}
	return num(d.Uint64N(70) * d.Uint64N(2))
}

func (d drawer) value() api.Word {
	if d.IntN(20) == 0 {
		return d.word()
	}
	return draw(d, num(0), num(0), num(0), num(1), num(d.Uint64N(30)))
}

// args: of an opcode, the top first, mostly such that something happens.
func (d drawer) args(o op) []any {
	dirty := func() api.Word { // an address, now and then with more above it
		w := wordOf(d.account())
		if d.IntN(4) == 0 {
			w[3] = d.Uint64()
		}
		return w
	}
	span := func() []any { return []any{d.place(), d.size()} }
	slot := func() any { return d.Uint64N(3) }
	switch o {
	case KECCAK256, RETURN, REVERT:
		return span()
	case BALANCE, EXTCODESIZE, EXTCODEHASH:
		return []any{dirty()}
	case CALLDATALOAD:
		return []any{d.place()}
	case CALLDATACOPY, CODECOPY, RETURNDATACOPY:
		return []any{d.place(), d.place(), d.size()}
	case EXTCODECOPY:
		return []any{dirty(), d.place(), d.place(), d.size()}
	case MLOAD:
		return []any{d.place()}
	case MSTORE, MSTORE8:
		return []any{d.place(), d.word()}
	case SLOAD:
		return []any{slot()}
	case SSTORE:
		return []any{slot(), slot()}
	case CREATE:
		return append([]any{d.value()}, span()...)
	case CREATE2:
		return append(append([]any{d.value()}, span()...), slot())
	case CALL:
		return append(append([]any{d.gas(), dirty(), d.value()}, span()...), span()...)
	case DELEGATECALL, STATICCALL:
		return append(append([]any{d.gas(), dirty()}, span()...), span()...)
	case 0xa0, 0xa1, 0xa2, 0xa3, 0xa4:
		out := span()
		for range o - 0xa0 {
			out = append(out, d.word())
		}
		return out
	}
	takes, _, _ := plainShape(o)
	var out []any
	for range takes {
		out = append(out, d.word())
	}
	return out
}

func (d drawer) gas() api.Word {
	return draw(d, num(d.Uint64N(100)), num(d.Uint64N(3000)), num(d.Uint64N(50000)), num(1000000), top())
}

// backwards: words are pushed so that the first is the top.
func backwards(l []any) []byte {
	var out []byte
	for i := len(l) - 1; i >= 0; i-- {
		out = append(out, code(l[i])...)
	}
	return out
}

// first: the short first code of a contract.
func (d drawer) first() []byte {
	n := int(d.Uint64N(40))
	return draw(d,
		nil, code(n, 0, RETURN), code(n, 0, REVERT), code(0xef, 0, MSTORE8, n, 0, RETURN), code(INVALID), code(SELFBALANCE, 0, MSTORE, 32, 0, RETURN),
		code(1, 1, SSTORE, 0, 1, SSTORE, n, 0, RETURN), code(0, 0, LOG0, 0, 0, 0, CREATE), code(0, 0, 0, 0, 5, CALLER, GAS, CALL, 0, MSTORE, 32, 0, RETURN),
		code(CALLER, 0, MSTORE, CALLDATASIZE, 32, MSTORE, 64, 0, RETURN), code(24576, 0, RETURN), code(24577, 0, RETURN), d.bytes(32))
}

func (d drawer) bytes(most int) []byte {
	b := make([]byte, d.IntN(most+1))
	for i := range b {
		b[i] = byte(d.Uint32())
	}
	return b
}

// part: of a code.
func (d drawer) part() []byte {
	o := op(known[d.IntN(len(known))])
	switch d.IntN(22) {
	case 0: // its words may be missing
		return code(o)
	case 1, 2, 3, 4:
		o = draw(d, CALL, CALL, DELEGATECALL, STATICCALL)
	case 5, 6:
		o = draw(d, SSTORE, SLOAD, CREATE, CREATE2, 0xa0, 0xa1, 0xa4)
	case 7: // a contract is made
		b := d.first()
		if len(b) > 32 {
			b = nil
		}
		return code([]byte{0x7f}, append(bytes.Clone(b), make([]byte, 32-len(b))...), 0, MSTORE, d.Uint64N(3), len(b), 0, d.value(), draw(d, CREATE, CREATE2), POP)
	case 8:
		return code(RETURNDATASIZE, 0, d.Uint64N(64), RETURNDATACOPY)
	case 9:
		return code(JUMPDEST)
	case 10: // to a place that is told once the code is whole
		return code(d.Uint64N(3), []byte{0x61, 0xff, 0xff}, draw(d, JUMPI, JUMPI, JUMP))
	case 11:
		return code(d.word(), d.word(), d.word())
	case 12:
		return times(d.IntN(1030), 0)
	case 13: // what is wrong, seldom
		return d.bytes(2)
	}
	switch {
	case o == STOP || o == RETURN || o == REVERT || o == JUMP:
		if d.IntN(6) > 0 {
			return code(JUMPDEST)
		}
	case o >= 0x60 && o <= 0x7f:
		return append([]byte{byte(o)}, make([]byte, o-0x5f)...)
	}
	return code(backwards(d.args(o)), o)
}

func (d drawer) code() []byte {
	var out []byte
	for range d.IntN(24) {
		out = append(out, d.part()...)
	}
	if d.IntN(2) == 0 {
		out = append(out, code(d.Uint64N(64), d.Uint64N(64), draw(d, RETURN, RETURN, REVERT))...)
	}
	dests := []int{d.IntN(len(out) + 2)}
	for at, is := range evm.Dests(out) {
		if is {
			dests = append(dests, at, at)
		}
	}
	for at := 0; at+2 < len(out); at++ {
		if bytes.Equal(out[at:at+3], []byte{0x61, 0xff, 0xff}) {
			to := draw(d, dests...)
			out[at+1], out[at+2] = byte(to>>8), byte(to)
		}
	}
	return out
}

// both: a state, and the chapter's words said over again of the same accounts.
func (d drawer) both() (*state.State, *plain) {
	s, p := state.Open(trie.Empty(), nil), &plain{s: newPlainState(), env: someEnv, met: map[plainMet]int{}}
	for i := range 5 { // the sixth is not there
		a := addr(byte(1 + i))
		x := plainAccount{nonce: draw(d, 0, 1, 127, 128, uint64(math.MaxUint64-1), math.MaxUint64), balance: bigNum(d.Uint64N(100)), slots: map[api.Word]api.Word{}}
		if i < 4 {
			x.code = string(d.code())
		}
		for k := range uint64(3) {
			if v := d.Uint64N(3); v > 0 {
				x.slots[num(k)] = num(v)
			}
		}
		p.s.accounts[a] = x
		s.SetNonce(a, x.nonce)
		s.SetBalance(a, wordOfBig(x.balance))
		s.SetCode(a, []byte(x.code))
		for k, v := range x.slots {
			s.SetSlot(a, k, v)
		}
	}
	begin(s, p)
	return s, p
}

func begin(s *state.State, p *plain) {
	s.Begin()
	x := newPlainState()
	for a, acc := range p.s.accounts {
		if p.s.exists(a) {
			x.accounts[a] = acc
			for k, v := range acc.slots {
				x.first[plainSlot{a, k}] = v
			}
		}
	}
	p.s = x
}

func (d drawer) message() evm.Msg {
	m := evm.Msg{
		Caller: d.account(), To: d.account(), Value: d.value(), Data: d.bytes(70), Static: d.IntN(8) == 0,
		Gas: draw(d, d.Uint64N(300), d.Uint64N(3000), d.Uint64N(60000), 60000, 100000, 100000, 100000, 200000),
	}
	if d.IntN(8) == 0 {
		m.Depth = draw(d, 1, -7, 1021, 1022, 1023, 1024, 1025, math.MinInt, math.MaxInt)
	}
	if d.IntN(4) == 0 {
		m.Create, m.Data = true, draw(d, d.first(), d.code())
	}
	return m
}

// same: both states hold the same, all of it: what is asked of it here is warm thereafter, in both.
func same(t *testing.T, what string, s *state.State, p *plain) {
	t.Helper()
	is(t, what+": refund", s.Refund(), p.s.refund)
	is(t, what+": logs", fmt.Sprintf("%x", s.Logs()), fmt.Sprintf("%x", p.s.logs))
	fresh := state.Open(trie.Empty(), nil)
	for a, x := range p.s.accounts {
		is(t, fmt.Sprint(what, ": nonce of ", a), s.Nonce(a), x.nonce)
		is(t, fmt.Sprint(what, ": balance of ", a), s.Balance(a), wordOfBig(x.balance))
		is(t, fmt.Sprint(what, ": code of ", a), s.Code(a), []byte(x.code))
		fresh.SetNonce(a, x.nonce)
		fresh.SetBalance(a, wordOfBig(x.balance))
		fresh.SetCode(a, []byte(x.code))
		for k, v := range x.slots {
			is(t, fmt.Sprint(what, ": slot of ", a, k), s.Slot(a, k), v)
			fresh.SetSlot(a, k, v)
		}
		for k := range uint64(4) {
			is(t, fmt.Sprint(what, ": warm slot ", a, k), s.WarmSlot(a, num(k)), p.s.touch(plainSlot{a, num(k)}))
		}
	}
	for c := range byte(9) {
		is(t, fmt.Sprint(what, ": warm ", c), s.Warm(addr(c)), p.s.touch(addr(c)))
	}
	for x := range p.s.warm {
		if a, ok := x.(api.Addr); ok {
			is(t, fmt.Sprint(what, ": warm ", a), s.Warm(a), true)
		}
	}
	got, _ := s.Root()
	want, _ := fresh.Root()
	is(t, what+": root", got, want)
}

// P1302, P1303: drawn codes and messages, held against the chapter's words.
func TestDrawn(t *testing.T) {
	met, outs := rounds(t, 13, 2000)
	metAll(t, met)
	for _, want := range []string{"false 0", "false 50", "false 51", "false 52", "false 53", "false 54", "false 55", "false 56", "false 57", "false 60", "true 0", "true 50", "true 54", "true 55", "true 56", "true 57", "true 58", "true 61"} {
		if outs[want] < 5 {
			t.Errorf("too few messages came to %q: %v", want, outs)
		}
	}
}

// rounds: so many worlds with some messages each; what opcodes met, and how many messages (creating or not) ended how.
func rounds(t *testing.T, seed uint64, n int) (map[plainMet]int, map[string]int) {
	d := drawer{rand.New(rand.NewPCG(seed, 2))}
	met := map[plainMet]int{}
	outs := map[string]int{}
	for round := range n {
		s, p := d.both()
		for i := range 1 + d.IntN(4) {
			m := d.message()
			what := fmt.Sprintf("seed %d, round %d, message %d, %+v", seed, round, i, m)
			data := bytes.Clone(m.Data)
			got, want := evm.Call(s, someEnv, m), p.message(m)
			is(t, what+": Out", fmt.Sprintf("%d %d %x %x", got.Err, got.Left, got.Data, got.Made), fmt.Sprintf("%d %d %x %x", want.Err, want.Left, want.Data, want.Made))
			is(t, what+": Data", m.Data, data)
			same(t, what, s, p)
			if t.Failed() {
				t.FailNow()
			}
			outs[fmt.Sprint(m.Create, " ", int(want.Err))]++
			if d.IntN(4) == 0 {
				begin(s, p)
			}
		}
		for k, n := range p.met {
			met[k] += n
		}
	}
	return met, outs
}

// metAll: all opcodes were met, doing what they do and with each of their own errors.
func metAll(t *testing.T, met map[plainMet]int) {
	t.Helper()
	for _, b := range known {
		o := op(b)
		asks := map[api.Errno]int{api.OK: 15}
		switch o {
		case REVERT:
			asks = map[api.Errno]int{api.ErrRevert: 15}
		case JUMP, JUMPI:
			asks[api.ErrJump] = 5
		case RETURNDATACOPY:
			asks[api.ErrBounds] = 5
		case SSTORE, CREATE, CREATE2, CALL, 0xa0, 0xa1, 0xa2, 0xa3, 0xa4:
			asks[api.ErrStatic] = 3
		}
		for err, want := range asks {
			if n := met[plainMet{o, err}]; n < want {
				t.Errorf("%02x was met with error %d %d times, not %d", b, int(err), n, want)
			}
		}
	}
}
