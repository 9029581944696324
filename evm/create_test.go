package evm_test

import (
	"bytes"
	"fmt"
	"math"
	"testing"

	"conclave/api"
	"conclave/evm"
	"conclave/keccak"
	"conclave/state"
	"conclave/word"
)

const (
	salt    = 7
	makeGas = 20000000
)

// made: what came of a creation: was one made, where, what was given, what was spent, and how much was handed on.
type made struct {
	well          bool
	at            api.Addr
	given         []byte
	spent, handed uint64
}

// way: of creating: as a message, by CREATE, by CREATE2.
type way struct {
	name    string
	op      op // of a message 0
	maker   api.Addr
	address func(nonce uint64, first []byte) api.Addr
}

func ways() []way {
	return []way{
		{"a message", 0, caller, func(nonce uint64, _ []byte) api.Addr { return evm.Address(caller, nonce) }},
		{"CREATE", CREATE, self, func(nonce uint64, _ []byte) api.Addr { return evm.Address(self, nonce) }},
		{"CREATE2", CREATE2, self, func(_ uint64, first []byte) api.Addr { return evm.Address2(self, num(salt), first) }},
	}
}

// maker: a code that makes a contract of its data, and gives how much gas there was behind and ahead, its address, and what was given.
func maker(o op, value api.Word) []byte {
	args := code(CALLDATASIZE, 0, value)
	if o == CREATE2 {
		args = code(salt, args)
	}
	return code(CALLDATASIZE, 0, 0, CALLDATACOPY, GAS, args, o, GAS, 0, MSTORE, 32, MSTORE, 64, MSTORE, RETURNDATASIZE, 0, 96, RETURNDATACOPY, RETURNDATASIZE, 96, ADD, 0, RETURN)
}

// make: a contract with that first code.
func (w way) make(t *testing.T, s *state.State, first []byte, value api.Word) (made, api.Errno) {
	t.Helper()
	if w.op == 0 {
		out := evm.Call(s, someEnv, evm.Msg{Caller: caller, To: purse, Value: value, Data: first, Gas: makeGas, Create: true})
		return made{out.Err == api.OK, out.Made, out.Data, makeGas - out.Left, makeGas}, out.Err
	}
	s.SetCode(self, maker(w.op, value))
	out := evm.Call(s, someEnv, evm.Msg{Caller: caller, To: self, Data: first, Gas: makeGas})
	if out.Err != api.OK || len(out.Data) < 96 {
		t.Fatalf("%s: %+v", w.name, out)
	}
	l := words(t, out.Data[:96])
	size := uint64(len(first)+31) / 32
	cost := 2 + 2 + row{args: []any{value}}.pushed() + 32000 + 2*size
	if w.op == CREATE2 {
		cost += 3 + 6*size
	}
	left := l[2][0] - cost
	at := api.Addr(word.Bytes(l[1])[12:])
	is(t, w.name+": the word of the address", l[1], wordOf(at))
	return made{at != api.Addr{}, at, out.Data[96:], left - 2 - l[0][0], left - left/64}, api.OK
}

// firsts: first codes, the errors they end with, what they cost (0 of an error: all), and what is laid or given.
func firsts() map[string]struct {
	first []byte
	err   api.Errno
	spent uint64
	bytes []byte
} {
	type row = struct {
		first []byte
		err   api.Errno
		spent uint64
		bytes []byte
	}
	return map[string]row{
		"empty":                   {nil, api.OK, 0, nil},
		"gives nothing":           {code(STOP), api.OK, 0, nil},
		"gives no bytes":          {code(0, 0, RETURN), api.OK, 4, nil},
		"gives a byte":            {code(1, 0, RETURN), api.OK, 3 + 2 + 3 + 200, []byte{0}},
		"gives two bytes":         {code(0xab, 1, MSTORE8, 2, 0, RETURN), api.OK, 3 + 3 + 6 + 3 + 2 + 400, []byte{0, 0xab}},
		"gives fe":                {code(0xfe, 0, MSTORE8, 1, 0, RETURN), api.OK, 3 + 2 + 6 + 3 + 2 + 200, []byte{0xfe}},
		"gives ef behind":         {code(0xef, 1, MSTORE8, 2, 0, RETURN), api.OK, 3 + 3 + 6 + 3 + 2 + 400, []byte{0, 0xef}},
		"gives MaxCode":           {code(24576, 0, RETURN), api.OK, 3 + 2 + 3456 + 4915200, make([]byte, 24576)},
		"gives one more":          {code(24577, 0, RETURN), api.ErrCode, 0, nil},
		"gives ef":                {code(0xef, 0, MSTORE8, 1, 0, RETURN), api.ErrCode, 0, nil},
		"gives ef and more":       {code(0xef, 0, MSTORE8, 40, 0, RETURN), api.ErrCode, 0, nil},
		"reverts":                 {code(0, 0, REVERT), api.ErrRevert, 4, nil},
		"reverts and gives":       {code(0xab, 1, MSTORE8, 3, 0, REVERT), api.ErrRevert, 3 + 3 + 6 + 3 + 2, []byte{0, 0xab, 0}},
		"reverts and gives ef":    {code(0xef, 0, MSTORE8, 1, 0, REVERT), api.ErrRevert, 3 + 2 + 6 + 3 + 2, []byte{0xef}},
		"reverts and gives much":  {code(24600, 0, REVERT), api.ErrRevert, 3 + 2 + 3462, make([]byte, 24600)},
		"fails":                   {code(1, 0, MSTORE, INVALID), api.ErrOp, 0, nil},
		"has too few words":       {code(ADD), api.ErrStack, 0, nil},
		"jumps nowhere":           {code(0, JUMP), api.ErrJump, 0, nil},
		"has too little gas":      {code(JUMPDEST, 0, JUMP), api.ErrGas, 0, nil},
		"wants what nothing gave": {code(1, 0, 0, RETURNDATACOPY), api.ErrBounds, 0, nil},
		"stores a slot":           {code(5, 1, SSTORE, 1, 0, RETURN), api.OK, 6 + 22100 + 8 + 200, []byte{0}},
		"stores a slot and fails": {code(5, 1, SSTORE, INVALID), api.ErrOp, 0, nil},
		"gives its data":          {code(CALLDATASIZE, 0, RETURN), api.OK, 4, nil},
	}
}

// P1302: creations by all three ways that end well, revert and fail: what is made, given, left; the maker's nonce, the balances, and what is warm behind each.
func TestCreate(t *testing.T) {
	for name, x := range firsts() {
		for _, w := range ways() {
			for _, value := range []uint64{0, 5} {
				s := world(nil)
				s.SetNonce(w.maker, 9)
				s.Begin()
				at := w.address(9, x.first)
				got, err := w.make(t, s, x.first, num(value))
				well := x.err == api.OK
				want := made{well: well, spent: x.spent, handed: got.handed}
				if well {
					want.at = at
				}
				if x.err == api.ErrRevert {
					want.given = x.bytes
				} else if !well {
					want.spent = got.handed
				}
				what := fmt.Sprintf("one that %s, by %s, value %d", name, w.name, value)
				is(t, what, fmt.Sprintf("%+v", got), fmt.Sprintf("%+v", want))
				if w.op == 0 {
					is(t, what+": Err", int(err), int(x.err))
				}
				is(t, what+": the maker's nonce", s.Nonce(w.maker), 10)
				is(t, what+": warm", s.Warm(at), true)
				is(t, what+": is it there", s.Exists(at), well)
				if !well {
					is(t, what+": nothing is there", fmt.Sprint(s.Nonce(at), s.Balance(at), len(s.Code(at)), s.Slot(at, num(1)), s.Balance(w.maker)), fmt.Sprint(0, num(0), 0, num(0), num(1000)))
					continue
				}
				is(t, what+": what is there", fmt.Sprint(s.Nonce(at), s.Balance(at), s.Balance(w.maker)), fmt.Sprint(1, num(value), num(1000-value)))
				is(t, what+": its code", bytes.Equal(s.Code(at), x.bytes), true)
			}
		}
	}
}

// P1302: what a first code sees.
func TestFirstCodeSees(t *testing.T) {
	tell := code(ADDRESS, EXTCODEHASH, ADDRESS, EXTCODESIZE, SELFBALANCE, CODESIZE, CALLDATASIZE, CALLVALUE, CALLER, ADDRESS, ORIGIN, giveWords(9))
	for _, w := range ways() {
		s := world(nil)
		at := w.address(0, tell)
		s.SetBalance(at, num(20))
		s.Begin()
		got, _ := w.make(t, s, tell, num(5))
		is(t, w.name, got.well, true)
		is(t, w.name+": what it sees", words(t, s.Code(at)), []api.Word{wordOf(someEnv.Origin), wordOf(at), wordOf(w.maker), num(5), num(0), num(uint64(len(tell))), num(25), num(0), wordOf(keccak.Sum(nil))})
		is(t, w.name+": cost", got.spent, 2*8+5+2*100+(2+6)+8*(3+6)+(3+2)+9*32*200)
	}
}

// P1302: ErrExists at an address that has a nonce or code; not where there is just a balance. The maker's nonce went up, and the address is warm.
func TestCreateWhereOneStands(t *testing.T) {
	first := code(1, 0, RETURN)
	for _, w := range ways() {
		for name, x := range map[string]struct {
			nonce, balance uint64
			code           []byte
			well           bool
		}{
			"nothing": {0, 0, nil, true}, "a balance": {0, 50, nil, true}, "a nonce": {1, 0, nil, false}, "another nonce": {math.MaxUint64, 50, nil, false}, "code": {0, 0, []byte{1}, false}, "all": {3, 50, []byte{1, 2}, false},
		} {
			s := world(nil)
			at := w.address(0, first)
			s.SetNonce(at, x.nonce)
			s.SetBalance(at, num(x.balance))
			s.SetCode(at, x.code)
			s.Begin()
			got, err := w.make(t, s, first, num(5))
			what := fmt.Sprintf("%s, where %s is", w.name, name)
			is(t, what+": well, given", fmt.Sprint(got.well, len(got.given)), fmt.Sprint(x.well, 0))
			is(t, what+": the maker's nonce, warm", fmt.Sprint(s.Nonce(w.maker), s.Warm(at)), "1 true")
			if x.well {
				is(t, what+": what is there", fmt.Sprint(s.Nonce(at), s.Balance(at), s.Code(at)), fmt.Sprint(1, num(x.balance+5), []byte{0}))
				continue
			}
			is(t, what+": what is there", fmt.Sprint(s.Nonce(at), s.Balance(at), s.Code(at), s.Balance(w.maker)), fmt.Sprint(x.nonce, num(x.balance), x.code, num(1000)))
			is(t, what+": spent", got.spent, got.handed)
			if w.op == 0 {
				is(t, what+": Err", int(err), int(api.ErrExists))
			}
		}
	}
}

// P1302: nonces of makers: of 2^64 - 1 ErrNonce, and nothing changes; of others the address hangs on them.
func TestCreateNonces(t *testing.T) {
	first := code(1, 0, RETURN)
	for _, w := range ways() {
		for _, nonce := range []uint64{0, 1, 127, 128, 255, 256, math.MaxUint64 - 1} {
			s := world(nil)
			s.SetNonce(w.maker, nonce)
			got, _ := w.make(t, s, first, num(0))
			is(t, fmt.Sprint(w.name, " with nonce ", nonce), fmt.Sprint(got.well, got.at == w.address(nonce, first), s.Nonce(w.maker)), fmt.Sprint(true, true, nonce+1))
		}
		s := world(nil)
		s.SetNonce(w.maker, math.MaxUint64)
		s.SetCode(self, maker(w.op, num(5)))
		s.Begin()
		before, _ := s.Root()
		got, err := w.make(t, s, first, num(5))
		after, _ := s.Root()
		is(t, w.name+" with nonce 2^64 - 1", fmt.Sprintf("%+v", got), fmt.Sprintf("%+v", made{handed: got.handed}))
		is(t, w.name+": the root", after, before)
		is(t, w.name+": warm", s.Warm(w.address(math.MaxUint64, first)), false)
		if w.op == 0 {
			is(t, "Err", int(err), int(api.ErrNonce))
		}
	}
}

// P1302: a maker without the balance: all gas is left, nothing changes; with just the balance one is made.
func TestCreateFunds(t *testing.T) {
	first := code(1, 0, RETURN)
	for _, w := range ways() {
		for _, value := range []api.Word{num(1000), num(1001), num(math.MaxUint64), pow(64), top()} {
			s := world(nil)
			s.SetCode(self, maker(w.op, value))
			s.SetNonce(purse, math.MaxUint64) // ErrFunds comes ahead of ErrNonce
			s.Begin()
			before, _ := s.Root()
			got, err := w.make(t, s, first, value)
			after, _ := s.Root()
			what := fmt.Sprint(w.name, " with value ", value)
			at := w.address(0, first)
			if value == num(1000) {
				is(t, what, fmt.Sprint(got.well, s.Balance(at), s.Balance(w.maker)), fmt.Sprint(true, num(1000), num(0)))
				continue
			}
			is(t, what, fmt.Sprintf("%+v", got), fmt.Sprintf("%+v", made{handed: got.handed}))
			is(t, what+": the root, warm", fmt.Sprint(after == before, s.Warm(at)), "true false")
			if w.op == 0 {
				is(t, "Err", int(err), int(api.ErrFunds))
			}
		}
	}
}

// P1302: the order of a message's errors: ErrDeep, ErrFunds, ErrNonce, ErrExists.
func TestCreateOrder(t *testing.T) {
	for _, x := range []struct {
		depth int
		value uint64
		nonce uint64
		want  api.Errno
	}{
		{1025, 1001, math.MaxUint64, api.ErrDeep}, {1024, 1001, math.MaxUint64, api.ErrFunds}, {1024, 1000, math.MaxUint64, api.ErrNonce}, {1025, 0, 3, api.ErrDeep}, {0, 1001, 3, api.ErrFunds}, {1024, 1000, 3, api.ErrExists}, {0, 0, 4, api.OK},
	} {
		s := world(nil)
		s.SetNonce(caller, x.nonce)
		s.SetCode(evm.Address(caller, math.MaxUint64), []byte{1})
		s.SetCode(evm.Address(caller, 3), []byte{1})
		s.Begin()
		out := evm.Call(s, someEnv, evm.Msg{Caller: caller, Create: true, Value: num(x.value), Gas: 50, Depth: x.depth})
		left := uint64(50)
		if x.want == api.ErrExists {
			left = 0
		}
		is(t, fmt.Sprintf("%+v", x), fmt.Sprint(int(out.Err), out.Left), fmt.Sprint(int(x.want), left))
	}
}

// P1302: too little gas for the bytes of a code; ErrCode comes ahead of that.
func TestCreateCodeGas(t *testing.T) {
	two := code(2, 0, RETURN) // costs 8, and 400 for its bytes
	for gas, want := range map[uint64]evm.Out{
		407: {Err: api.ErrGas}, 8: {Err: api.ErrGas}, 7: {Err: api.ErrGas}, 408: {Made: evm.Address(caller, 0)}, 409: {Left: 1, Made: evm.Address(caller, 0)},
	} {
		s := world(nil)
		out := evm.Call(s, someEnv, evm.Msg{Caller: caller, Create: true, Value: num(3), Gas: gas, Data: two})
		is(t, fmt.Sprint("with ", gas), fmt.Sprintf("%+v", out), fmt.Sprintf("%+v", want))
		at := evm.Address(caller, 0)
		well := want.Err == api.OK
		is(t, "what is there", fmt.Sprint(s.Exists(at), s.Nonce(caller), len(s.Code(at)) == 2, s.Balance(caller) == num(997)), fmt.Sprint(well, 1, well, well))
	}
	ef := code(0xef, 0, MSTORE8, 1, 0, RETURN)
	fails(t, "ef without gas for it", evm.Call(world(nil), someEnv, evm.Msg{Caller: caller, Create: true, Gas: 16, Data: ef}), api.ErrCode)
	fails(t, "ef with too little for its first code", evm.Call(world(nil), someEnv, evm.Msg{Caller: caller, Create: true, Gas: 15, Data: ef}), api.ErrGas)
	fails(t, "too long without gas for it", evm.Call(world(nil), someEnv, evm.Msg{Caller: caller, Create: true, Gas: 10000, Data: code(24577, 0, RETURN)}), api.ErrCode)
	for left, well := range map[uint64]bool{414: true, 413: false} { // of which 408 and 407 are handed on
		for _, o := range []op{CREATE, CREATE2} {
			head := code(wordOf(append(bytes.Clone(two), make([]byte, 28)...)), 0, MSTORE, salt, len(two), 0, 0, o)
			cost := uint64(11 + 3 + 3 + 2 + 2 + 32000 + 2)
			if o == CREATE2 {
				cost += 6
			}
			s := world(head)
			out := callWith(s, cost+left)
			at := map[op]api.Addr{CREATE: evm.Address(self, 0), CREATE2: evm.Address2(self, num(salt), two)}[o]
			is(t, fmt.Sprintf("%02x with %d left", byte(o), left), fmt.Sprint(int(out.Err), out.Left, s.Exists(at), s.Nonce(self)), fmt.Sprint(0, left/64, well, 1))
		}
	}
}

// P1302: a first code of MaxInit bytes, and of one more: of an opcode ErrGas, of a message no error, since the words know none there.
func TestCreateLongFirstCode(t *testing.T) {
	for _, size := range []int{49152, 49153} {
		s := world(nil)
		out := evm.Call(s, someEnv, evm.Msg{Caller: caller, Create: true, Gas: 5, Data: make([]byte, size)})
		is(t, fmt.Sprint("a message of ", size), fmt.Sprintf("%+v", out), fmt.Sprintf("%+v", evm.Out{Left: 5, Made: evm.Address(caller, 0)}))
		for _, o := range []op{CREATE, CREATE2} {
			text := code(salt, size, 0, 0, o, give())
			what := fmt.Sprintf("%02x of %d", byte(o), size)
			if size > 49152 {
				fails(t, what, callWith(world(text), math.MaxUint64), api.ErrGas)
				continue
			}
			at := map[op]api.Addr{CREATE: evm.Address(self, 0), CREATE2: evm.Address2(self, num(salt), make([]byte, size))}[o]
			gives(t, what, world(text), at)
			cost := uint64(3+3+2+2) + 32000 + 2*1536 + 3*1536 + 1536*1536/512
			if o == CREATE2 {
				cost += 6 * 1536
			}
			is(t, what+": cost", 1000000-call(world(text[:len(text)-len(give())])).Left, cost)
		}
	}
	for _, o := range []op{CREATE, CREATE2} {
		for _, x := range [][2]any{{0, 65536}, {0, 65537}, {65536, 1}, {0, pow(64)}, {pow(64), 1}, {top(), 1}, {1, top()}, {0, word64(1, 1)}} {
			fails(t, fmt.Sprintf("%02x of memory %v", byte(o), x), callWith(world(code(salt, x[1], x[0], 0, o)), math.MaxUint64), api.ErrGas)
		}
	}
}

// P1302: CREATE and CREATE2 hand on all but a 64th of what is left.
func TestCreateHandsOn(t *testing.T) {
	tell := code(GAS, give())
	for _, o := range []op{CREATE, CREATE2} {
		head := code(wordOf(append(bytes.Clone(tell), make([]byte, 32-len(tell))...)), 0, MSTORE, salt, len(tell), 0, 0, o)
		cost := uint64(11 + 3 + 3 + 2 + 2 + 32000 + 2)
		if o == CREATE2 {
			cost += 6
		}
		for _, left := range []uint64{10000, 123456, 640000, 1 << 40} {
			s := world(head)
			out := callWith(s, cost+left)
			handed := left - left/64
			at := map[op]api.Addr{CREATE: evm.Address(self, 0), CREATE2: evm.Address2(self, num(salt), tell)}[o]
			is(t, fmt.Sprintf("%02x with %d", byte(o), left), fmt.Sprint(int(out.Err), words(t, s.Code(at)), out.Left), fmt.Sprint(0, []api.Word{num(handed - 2)}, left-15-6400))
		}
	}
}

// P1302: a contract that is made can be called; one that makes another as it is made does so with nonce 1.
func TestCreateAndCall(t *testing.T) {
	text := givesBytes([]byte{4, 5, 6})
	first := code(len(text), 11, 0, CODECOPY, len(text), 0, RETURN)
	first[3] = byte(len(first))
	first = append(first, text...)
	for _, w := range ways() {
		s := world(nil)
		got, _ := w.make(t, s, first, num(0))
		out := evm.Call(s, someEnv, evm.Msg{Caller: caller, To: got.at, Gas: 10000})
		is(t, w.name+": what it gives", fmt.Sprintf("%x %x", out.Data, s.Code(got.at)), fmt.Sprintf("040506 %x", text))
		s = world(nil)
		got, _ = w.make(t, s, code(0, 0, 0, CREATE, give()), num(0))
		inner := evm.Address(got.at, 1)
		is(t, w.name+": one within", fmt.Sprint(s.Nonce(got.at), s.Nonce(inner), words(t, s.Code(got.at))), fmt.Sprint(2, 1, []api.Word{wordOf(inner)}))
	}
	s := world(code(salt, 0, 0, 0, CREATE2, salt, 0, 0, 0, CREATE2, giveWords(2)))
	gives(t, "CREATE2 twice", s, 0, evm.Address2(self, num(salt), nil))
	is(t, "the nonce", s.Nonce(self), 2)
	s = world(code(0, 0, 0, CREATE, 0, 0, 0, CREATE, giveWords(2)))
	gives(t, "CREATE twice", s, evm.Address(self, 1), evm.Address(self, 0))
}

// P1303: what a frame makes goes with it, and the nonce that it went up by, and what is warm, too.
func TestCreateReverted(t *testing.T) {
	for name, tail := range map[string][]byte{"reverts": code(0, 0, REVERT), "fails": code(INVALID)} {
		s := world(code(0, 0, 5, CREATE, tail))
		before, _ := s.Root()
		out := call(s)
		after, _ := s.Root()
		at := evm.Address(self, 0)
		is(t, name, fmt.Sprint(out.Err == api.OK, out.Made, after == before, s.Warm(at)), fmt.Sprint(false, api.Addr{}, true, false))
	}
	s := world(code(0xfe, 0, MSTORE8, 1, 0, 5, CREATE))
	call(s)
	is(t, "behind one that fails within a frame that ends well", fmt.Sprint(s.Nonce(self), s.Warm(evm.Address(self, 0)), s.Balance(self)), fmt.Sprint(1, true, num(1000)))
}
