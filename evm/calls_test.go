package evm_test

import (
	"fmt"
	"math"
	"testing"

	"conclave/api"
	"conclave/evm"
)

// ask: of a call: whom, with which gas and value (of CALL alone), and both memories.
type ask struct {
	gas, to, value, in, inSize, out, outSize any
}

// args: what an opcode takes for it, the top first; what is not told is 0.
func (a ask) args(o op) []any {
	l := []any{a.gas, a.to, a.value, a.in, a.inSize, a.out, a.outSize}
	if o != CALL {
		l = append(l[:2:2], l[3:]...)
	}
	for i, x := range l {
		if x == nil {
			l[i] = 0
		}
	}
	return l
}

func (a ask) code(o op) []byte { return code(backwards(a.args(o)), o) }

// pushes: what its words cost.
func (a ask) pushes(o op) uint64 { return row{args: a.args(o)}.pushed() }

var callOps = []op{CALL, DELEGATECALL, STATICCALL}

// giveWords: ends with the n words on the stack, the top first.
func giveWords(n int) []byte {
	var out []byte
	for i := range n {
		out = append(out, code(32*i, MSTORE)...)
	}
	return append(out, code(32*n, 0, RETURN)...)
}

// P1302: who is who in the frame of a message, and in frames that it calls.
func TestWho(t *testing.T) {
	tell := code(SELFBALANCE, CODESIZE, CALLDATASIZE, CALLVALUE, CALLER, ADDRESS, ORIGIN, giveWords(7))
	s := world(tell)
	out := evm.Call(s, someEnv, evm.Msg{Caller: caller, To: self, Value: num(7), Data: make([]byte, 9), Gas: 100000})
	is(t, "a message", words(t, out.Data), []api.Word{wordOf(someEnv.Origin), wordOf(self), wordOf(caller), num(7), num(9), num(uint64(len(tell))), num(1007)})
	is(t, "balances", fmt.Sprint(s.Balance(caller), s.Balance(self)), fmt.Sprint(num(993), num(1007)))
	for _, x := range []struct {
		o     op
		value any
		want  []any
	}{
		{CALL, 5, []any{other, self, 5, 4, len(tell), 1005}}, {CALL, 0, []any{other, self, 0, 4, len(tell), 1000}},
		{DELEGATECALL, nil, []any{self, caller, 7, 4, len(tell), 1007}}, {STATICCALL, nil, []any{other, self, 0, 4, len(tell), 1000}},
	} {
		text := code(ask{gas: 50000, to: other, value: x.value, in: 100, inSize: 4, out: 0, outSize: 224}.code(x.o), POP, 224, 0, RETURN)
		s := with(text, tell)
		out := evm.Call(s, someEnv, evm.Msg{Caller: caller, To: self, Value: num(7), Gas: 100000})
		want := []api.Word{wordOf(someEnv.Origin)}
		for _, w := range x.want {
			want = append(want, wordOf(w))
		}
		is(t, fmt.Sprintf("%02x with value %v", byte(x.o), x.value), words(t, out.Data), want)
		sent := wordOf(ask{value: x.value}.args(CALL)[2])[0]
		is(t, "balances", fmt.Sprint(s.Balance(caller), s.Balance(self), s.Balance(other)), fmt.Sprint(num(993), num(1007-sent), num(1000+sent)))
	}
}

// P1302: DELEGATECALL within DELEGATECALL, and CALL within it: the own account stays the first one's.
func TestDelegateChain(t *testing.T) {
	s := world(ask{gas: top(), to: other}.code(DELEGATECALL))
	s.SetCode(other, ask{gas: top(), to: purse}.code(DELEGATECALL))
	s.SetCode(purse, code(CALLER, 1, SSTORE, ADDRESS, 2, SSTORE, CALLVALUE, 3, SSTORE, ask{gas: 0, to: nobody, value: 3}.code(CALL), 4, SSTORE))
	s.Begin()
	out := evm.Call(s, someEnv, evm.Msg{Caller: caller, To: self, Value: num(7), Gas: 1000000})
	is(t, "Err", int(out.Err), 0)
	is(t, "slots", fmt.Sprint(s.Slot(self, num(1)), s.Slot(self, num(2)), s.Slot(self, num(3)), s.Slot(self, num(4))), fmt.Sprint(wordOf(caller), wordOf(self), num(7), num(1)))
	is(t, "slots of the others", fmt.Sprint(s.Slot(other, num(1)), s.Slot(purse, num(1))), fmt.Sprint(num(0), num(0)))
	is(t, "who has paid", fmt.Sprint(s.Balance(self), s.Balance(nobody), s.Balance(purse)), fmt.Sprint(num(1000+7-3), num(3), num(1000)))
}

// P1302: what calls cost: warm or not, with a value, of an account that does not exist; with just enough gas and one less.
func TestCallCosts(t *testing.T) {
	for _, x := range []struct {
		o     op
		to    any
		value any
		cost  uint64 // but for what the 2300 give back
	}{
		{CALL, purse, 0, 2600}, {CALL, nobody, 0, 2600}, {CALL, purse, 1, 11600}, {CALL, nobody, 1, 36600},
		{DELEGATECALL, purse, nil, 2600}, {DELEGATECALL, nobody, nil, 2600}, {STATICCALL, purse, nil, 2600}, {STATICCALL, nobody, nil, 2600},
	} {
		for _, warm := range []bool{false, true} {
			a := ask{gas: 0, to: x.to, value: x.value}
			need := a.pushes(x.o) + x.cost
			gift := uint64(0)
			if x.value == 1 {
				gift = 2300
			}
			if warm {
				need -= 2500
			}
			run := func(gas uint64) evm.Out {
				s := world(code(a.code(x.o), 0, MSTORE, 32, 0, RETURN))
				if warm {
					s.Warm(x.to.(api.Addr))
				}
				return callWith(s, gas)
			}
			what := fmt.Sprintf("%02x to %v, value %v, warm %v", byte(x.o), x.to, x.value, warm)
			out := run(need + 13 + 100)
			is(t, what, fmt.Sprint(int(out.Err), out.Left, words(t, out.Data)), fmt.Sprint(0, 100+gift, []api.Word{num(1)}))
			s := world(a.code(x.o))
			if warm {
				s.Warm(x.to.(api.Addr))
			}
			out = callWith(s, need)
			is(t, what+", just enough", fmt.Sprint(int(out.Err), out.Left), fmt.Sprint(0, gift))
			is(t, what+": warm behind it", s.Warm(x.to.(api.Addr)), true)
			s = world(a.code(x.o))
			if warm {
				s.Warm(x.to.(api.Addr))
			}
			fails(t, what+", one less", callWith(s, need-1), api.ErrGas)
		}
	}
}

// P1302: how much gas is handed on: what is asked, but no more than all but a 64th; with a value 2300 more.
func TestHandedGas(t *testing.T) {
	tell := code(GAS, give())
	for _, o := range callOps {
		for _, value := range []int{0, 1} {
			if value == 1 && o != CALL {
				continue
			}
			for _, asked := range []any{0, 1, 2, 100, 5000, 9999, 1 << 40, pow(64), pow(255), top()} {
				a := ask{gas: asked, to: other, value: value, outSize: 32}
				const gas = 100000
				left := gas - a.pushes(o) - 2600 - 3 - uint64(value)*9000
				handed := left - left/64
				if w := wordOf(asked); w == num(w[0]) && w[0] < handed {
					handed = w[0]
				}
				got := handed + uint64(value)*2300
				s := with(code(a.code(o), POP, 32, 0, RETURN), tell)
				out := callWith(s, gas)
				what := fmt.Sprintf("%02x asks for %v, value %d", byte(o), asked, value)
				cost := uint64(2 + 2 + 6 + 3 + 2)
				if got < cost { // too little to tell: it is gone
					is(t, what, fmt.Sprint(int(out.Err), out.Left, words(t, out.Data)), fmt.Sprint(0, left-handed-2-5, []api.Word{num(0)}))
					continue
				}
				is(t, what, fmt.Sprint(int(out.Err), out.Left, words(t, out.Data)), fmt.Sprint(0, left-handed+got-cost-2-5, []api.Word{num(got - 2)}))
			}
		}
	}
	for left, most := range map[uint64]uint64{0: 0, 1: 1, 63: 63, 64: 63, 127: 126, 128: 126, 6400: 6300} {
		a := ask{gas: top(), to: other}
		out := callWith(with(a.code(CALL), code(INVALID)), a.pushes(CALL)+2600+left)
		is(t, fmt.Sprint("left behind a call that takes all, of ", left), fmt.Sprint(int(out.Err), out.Left), fmt.Sprint(0, left-most))
	}
}

// P1302: what comes back of the gas behind calls that end well, that revert and that fail; what they gave, and what of it is put to memory.
func TestBackFromCalls(t *testing.T) {
	b := unhex("a1a2a3a4a5")
	store := code(unhex("64a1a2a3a4a5"), 216, SHL, 0, MSTORE) // costs 3 3 3 2 6
	for _, x := range []struct {
		name  string
		text  []byte
		put   int
		spent uint64 // all that was handed on, if it is 0
		given []byte
	}{
		{"well", code(store, 5, 0, RETURN), 1, 17 + 5, b}, {"well, giving nothing", code(store), 1, 17, nil},
		{"reverts", code(store, 5, 0, REVERT), 0, 17 + 5, b}, {"reverts, giving nothing", code(store, 0, 0, REVERT), 0, 17 + 4, nil},
		{"fails", code(store, INVALID), 0, 0, nil}, {"has too few words", code(store, ADD), 0, 0, nil}, {"jumps nowhere", code(store, 0, JUMP), 0, 0, nil}, {"has too little gas", code(JUMPDEST, 0, JUMP), 0, 0, nil}, {"bounds", code(store, 1, 0, 0, RETURNDATACOPY), 0, 0, nil},
	} {
		for _, o := range callOps {
			for _, room := range []int{0, 3, 5, 9} {
				a := ask{gas: 20000, to: other, out: 2, outSize: room}
				text := code(top(), 0, MSTORE, a.code(o), 32, MSTORE, RETURNDATASIZE, 64, MSTORE, RETURNDATASIZE, 0, 96, RETURNDATACOPY, 128, 0, RETURN)
				out := callWith(with(text, x.text), 100000)
				fit := x.given[:min(len(x.given), room)]
				memory := unhex("ffffffffffffffffffffffffffffffffffffffffffffffffffffffffffffffff")
				copy(memory[2:], fit)
				want := fmt.Sprintf("0 %x%064x%064x%x", memory, x.put, len(x.given), cut(x.given, num(0), 32))
				what := fmt.Sprintf("%s, %02x, room for %d", x.name, byte(o), room)
				is(t, what, fmt.Sprintf("%d %x", int(out.Err), out.Data), want)
				spent := x.spent
				if spent == 0 {
					spent = 20000
				}
				copied := uint64(3 + 3 + 3)
				if len(x.given) == 0 {
					copied = 3
				}
				fixed := 11 + a.pushes(o) + 2600 + (3 + 6) + (2 + 3 + 6) + (2 + 2 + 3 + copied) + 5
				if len(x.given) == 0 { // the last word of memory is paid by RETURN
					fixed += 3
				}
				is(t, what+": gas", 100000-out.Left, fixed+spent)
			}
		}
	}
}

// P1302: the data of a call are memory: within, across and beyond what was used.
func TestCallData(t *testing.T) {
	echo := code(CALLDATASIZE, 0, 0, CALLDATACOPY, CALLDATASIZE, 0, RETURN)
	w := unhex("a0a1a2a3a4a5a6a7a8a9aaabacadaeafb0b1b2b3b4b5b6b7b8b9babbbcbdbebf")
	for _, o := range callOps {
		for _, x := range []struct{ in, size int }{{0, 0}, {0, 32}, {5, 3}, {30, 4}, {31, 33}, {32, 1}, {100, 40}} {
			text := code(wordOf(w), 0, MSTORE, ask{gas: 50000, to: other, in: x.in, inSize: x.size}.code(o), POP, RETURNDATASIZE, 0, 0, RETURNDATACOPY, RETURNDATASIZE, 0, RETURN)
			out := call(with(text, echo))
			is(t, fmt.Sprintf("%02x with the memory %+v", byte(o), x), fmt.Sprintf("%d %x", int(out.Err), out.Data), fmt.Sprintf("0 %x", cut(w, num(uint64(x.in)), x.size)))
		}
		text := code(wordOf(w), 0, MSTORE, ask{gas: 50000, to: other, in: 0, inSize: 8, out: 4, outSize: 8}.code(o), POP, 32, 0, RETURN)
		gives(t, "what is given goes where the data are", with(text, echo), unhex("a0a1a2a3a0a1a2a3a4a5a6a7acadaeafb0b1b2b3b4b5b6b7b8b9babbbcbdbebf"))
	}
}

// P1302: a call to an account that has no code, or does not exist, ends well and gives nothing; a value brings it to be.
func TestCallNoCode(t *testing.T) {
	for _, to := range []api.Addr{purse, nobody} {
		for _, o := range callOps {
			s := with(code(ask{gas: 50000, to: other, outSize: 0}.code(CALL), POP, ask{gas: 5000, to: to, inSize: 5, outSize: 32}.code(o), RETURNDATASIZE, giveWords(2)), givesBytes([]byte{1, 2}))
			gives(t, fmt.Sprintf("%02x to %v", byte(o), to), s, 0, 1)
			is(t, "is it there", s.Exists(to), to == purse)
		}
	}
	s := world(ask{gas: 0, to: nobody, value: 1}.code(CALL))
	is(t, "Err", int(call(s).Err), 0)
	is(t, "who was paid", fmt.Sprint(s.Exists(nobody), s.Balance(nobody), s.Balance(self)), fmt.Sprint(true, num(1), num(999)))
	out := evm.Call(s, someEnv, evm.Msg{Caller: caller, To: nobody, Value: num(5), Gas: 9, Data: []byte{1}})
	is(t, "a message", fmt.Sprintf("%+v %v", out, s.Balance(nobody)), fmt.Sprintf("%+v %v", evm.Out{Left: 9}, num(6)))
}

// P1302: an account that calls itself, and one that sends to itself.
func TestCallSelf(t *testing.T) {
	inner := code(SELFBALANCE, CALLVALUE, CALLER, giveWords(3))
	outer := code(ask{gas: 50000, to: self, value: 400, inSize: 1, outSize: 96}.code(CALL), POP, 96, 0, RETURN)
	head := 4 // bytes
	s := world(code(CALLDATASIZE, head+len(outer), JUMPI, outer, JUMPDEST, inner))
	gives(t, "a call to itself", s, self, 400, 1000)
	is(t, "its balance", s.Balance(self), num(1000))
	out := evm.Call(s, someEnv, evm.Msg{Caller: self, To: self, Value: num(1000), Data: []byte{1}, Gas: 100000})
	is(t, "a message to itself with all it has", fmt.Sprint(words(t, out.Data), s.Balance(self)), fmt.Sprint([]api.Word{wordOf(self), num(1000), num(1000)}, num(1000)))
	out = evm.Call(s, someEnv, evm.Msg{Caller: self, To: self, Value: num(1001), Data: []byte{1}, Gas: 100000})
	is(t, "with more", fmt.Sprintf("%+v %v", out, s.Balance(self)), fmt.Sprintf("%+v %v", evm.Out{Err: api.ErrFunds, Left: 100000}, num(1000)))
}

// P1302: more value than the balance: of a message, and of a call, which gives nothing and has all its gas back, the 2300 too.
func TestFunds(t *testing.T) {
	for _, value := range []api.Word{num(1001), num(math.MaxUint64), pow(64), pow(255), top()} {
		s := world(code(INVALID))
		before, _ := s.Root()
		for _, create := range []bool{false, true} {
			out := evm.Call(s, someEnv, evm.Msg{Caller: caller, To: self, Value: value, Gas: 77, Create: create, Data: []byte{0xfe}})
			is(t, fmt.Sprint("a message with ", value), fmt.Sprintf("%+v", out), fmt.Sprintf("%+v", evm.Out{Err: api.ErrFunds, Left: 77}))
		}
		after, _ := s.Root()
		is(t, "the root", after, before)
		is(t, "what is warm", fmt.Sprint(s.Warm(self), s.Warm(caller), s.Warm(evm.Address(caller, 0))), "false false false")
		a := ask{gas: 5000, to: other, value: value, outSize: 32}
		first := ask{gas: 5000, to: other}
		s = with(code(top(), 0, MSTORE, first.code(CALL), POP, a.code(CALL), 32, MSTORE, RETURNDATASIZE, 64, MSTORE, 96, 0, RETURN), givesBytes([]byte{1, 2}))
		out := callWith(s, 100000)
		is(t, fmt.Sprint("a call with ", value), words(t, out.Data), []api.Word{top(), {}, {}})
		is(t, "its gas", 100000-out.Left, 11+first.pushes(CALL)+2600+(3+2+6+3+2)+2+a.pushes(CALL)+100+9000-2300+9+2+3+6+5)
	}
	s := world(ask{gas: 0, to: purse, value: 1000}.code(CALL))
	call(s)
	is(t, "all there is", fmt.Sprint(s.Balance(self), s.Balance(purse)), fmt.Sprint(num(0), num(2000)))
}

// counting: a code that calls itself with all its gas and gives how many frames there were.
func counting(o op) []byte {
	return code(ask{gas: top(), to: self, outSize: 32}.code(o), POP, 0, MLOAD, 1, ADD, give())
}

// P1302: Depth at MaxCalls and one above: of messages and of calls.
func TestDepth(t *testing.T) {
	for _, create := range []bool{false, true} {
		for _, depth := range []int{1025, 1026, math.MaxInt} {
			s := world(counting(CALL))
			before, _ := s.Root()
			out := evm.Call(s, someEnv, evm.Msg{Caller: caller, To: self, Value: top(), Gas: 77, Depth: depth, Create: create})
			is(t, fmt.Sprint("a message of depth ", depth), fmt.Sprintf("%+v", out), fmt.Sprintf("%+v", evm.Out{Err: api.ErrDeep, Left: 77}))
			after, _ := s.Root()
			is(t, "the root", after, before)
		}
	}
	for _, o := range callOps {
		for depth, frames := range map[int]uint64{1024: 1, 1023: 2, 1022: 3, 1000: 25, 0: 1025, -975: 2000} {
			s := world(counting(o))
			s.Warm(self)
			out := evm.Call(s, someEnv, evm.Msg{Caller: caller, To: self, Gas: math.MaxUint64, Depth: depth})
			is(t, fmt.Sprintf("frames by %02x from depth %d", byte(o), depth), fmt.Sprint(int(out.Err), words(t, out.Data)), fmt.Sprint(0, []api.Word{num(frames)}))
		}
	}
}

// P1302: a call that is too deep gives nothing, moves nothing, and has all its gas back.
func TestTooDeep(t *testing.T) {
	for _, o := range callOps {
		a := ask{gas: 5000, to: other, value: 1, outSize: 32}
		s := with(code(top(), 0, MSTORE, a.code(o), 32, MSTORE, RETURNDATASIZE, 64, MSTORE, 96, 0, RETURN), code(INVALID))
		out := evm.Call(s, someEnv, evm.Msg{Caller: caller, To: self, Gas: 100000, Depth: 1024})
		cost := uint64(11+2600+9+2+3+6+5) + a.pushes(o)
		if o == CALL {
			cost += 9000 - 2300
		}
		is(t, fmt.Sprintf("%02x", byte(o)), fmt.Sprint(int(out.Err), 100000-out.Left, words(t, out.Data)), fmt.Sprint(0, cost, []api.Word{top(), {}, {}}))
		is(t, "balances", fmt.Sprint(s.Balance(self), s.Balance(other)), fmt.Sprint(num(1000), num(1000)))
		is(t, "warm", s.Warm(other), true)
	}
	for _, o := range []op{CREATE, CREATE2} {
		s := world(code(7, 0, 0, 1, o, RETURNDATASIZE, giveWords(2)))
		out := evm.Call(s, someEnv, evm.Msg{Caller: caller, To: self, Gas: 100000, Depth: 1024})
		pushes := uint64(3 + 2 + 2 + 3)
		is(t, fmt.Sprintf("%02x", byte(o)), fmt.Sprint(int(out.Err), 100000-out.Left, words(t, out.Data)), fmt.Sprint(0, pushes+32000+2+(2+6)+(3+6)+5, []api.Word{{}, {}}))
		is(t, "the nonce", fmt.Sprint(s.Nonce(self), s.Warm(evm.Address(self, 0)), s.Warm(evm.Address2(self, num(7), nil))), "0 false false")
	}
}

// P1302: what is warm: what a frame that ends well touched stays so; of one that does not just who was called.
func TestWarmBehindCalls(t *testing.T) {
	for name, tail := range map[string][]byte{"well": code(STOP), "reverts": code(0, 0, REVERT), "fails": code(INVALID)} {
		for _, o := range callOps {
			s := with(ask{gas: 50000, to: other}.code(o), code(purse, BALANCE, 3, SLOAD, tail))
			is(t, name, int(call(s).Err), 0)
			own := other
			if o == DELEGATECALL {
				own = self
			}
			is(t, fmt.Sprintf("%s, %02x", name, byte(o)), fmt.Sprint(s.Warm(other), s.Warm(purse), s.WarmSlot(own, num(3))), fmt.Sprint(true, name == "well", name == "well"))
		}
	}
}

// P1302: behind each call the last one's bytes alone are known.
func TestLastGiven(t *testing.T) {
	s := world(nil)
	long, short := code(40, 0, RETURN), code(7, 0, REVERT)
	s.SetCode(other, long)
	s.SetCode(purse, short)
	s.SetCode(nobody, code(INVALID))
	for name, x := range map[string]struct {
		text []byte
		want int
	}{
		"well":                     {ask{gas: 5000, to: other}.code(CALL), 40},
		"reverts":                  {ask{gas: 5000, to: purse}.code(STATICCALL), 7},
		"fails":                    {ask{gas: 5000, to: nobody}.code(CALL), 0},
		"has no code":              {ask{gas: 5000, to: caller}.code(CALL), 0},
		"without funds":            {ask{gas: 5000, to: other, value: 5000}.code(CALL), 0},
		"makes":                    {code(0, 0, 0, CREATE), 0},
		"makes and reverts":        {code(unhex("6760095ffd00000000"), 192, SHL, 100, MSTORE, 8, 100, 0, CREATE), 9},
		"makes and fails":          {code(0xfe, 0, MSTORE8, 1, 0, 0, CREATE), 0},
		"makes without funds":      {code(0, 0, 5000, CREATE), 0},
		"makes2":                   {code(1, 0, 0, 0, CREATE2), 0},
		"makes2 and reverts":       {code(unhex("6760095ffd00000000"), 192, SHL, 100, MSTORE, 1, 8, 100, 0, CREATE2), 9},
		"makes2 where one is made": {code(1, 0, 0, 0, CREATE2, POP, ask{gas: 5000, to: other}.code(CALL), POP, 1, 0, 0, 0, CREATE2), 0},
	} {
		s.SetCode(self, code(ask{gas: 50000, to: other}.code(CALL), POP, x.text, RETURNDATASIZE, give()))
		s.SetNonce(self, 0)
		s.Begin()
		id := s.Snapshot()
		gives(t, "behind one that "+name, s, x.want)
		is(t, "Revert", int(s.Revert(id)), 0)
	}
}
