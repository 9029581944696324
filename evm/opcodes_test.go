package evm_test

import (
	"fmt"
	"testing"

	"conclave/api"
	"conclave/evm"
	"conclave/keccak"
	"conclave/word"
)

// row: an opcode with words that it takes, the top first, what it costs with them, and what it puts (nil: nothing).
type row struct {
	op   op
	args []any
	cost uint64
	put  any
}

// rows: each opcode at least once, but for those that end a frame; all are met in the world, by a message with a value of 7 and the data 01 02 03.
func rows() []row {
	l := func(args ...any) []any { return args }
	hash := func(b []byte) api.Hash { return keccak.Sum(b) }
	out := []row{
		{ADD, l(2, 3), 3, 5}, {ADD, l(top(), 2), 3, 1},
		{MUL, l(6, 7), 5, 42}, {SUB, l(5, 3), 3, 2}, {SUB, l(3, 5), 3, neg(2)},
		{DIV, l(7, 2), 5, 3}, {DIV, l(7, 0), 5, 0}, {SDIV, l(neg(7), 2), 5, neg(3)}, {MOD, l(7, 4), 5, 3}, {SMOD, l(neg(7), 4), 5, neg(3)},
		{ADDMOD, l(5, 6, 7), 8, 4}, {ADDMOD, l(top(), 2, 7), 8, word.Addmod(top(), num(2), num(7))}, {MULMOD, l(5, 6, 7), 8, 2},
		{EXP, l(2, 10), 60, 1024}, {EXP, l(10, 0), 10, 1}, {EXP, l(1, 256), 110, 1}, {EXP, l(3, top()), 1610, word.Exp(num(3), top())},
		{SIGNEXTEND, l(0, 255), 5, top()}, {SIGNEXTEND, l(1, 255), 5, 255},
		{LT, l(1, 2), 3, 1}, {LT, l(2, 1), 3, 0}, {LT, l(2, 2), 3, 0}, {GT, l(2, 1), 3, 1}, {GT, l(1, 2), 3, 0}, {GT, l(2, 2), 3, 0},
		{SLT, l(neg(1), 0), 3, 1}, {SLT, l(0, neg(1)), 3, 0}, {SLT, l(1, 1), 3, 0}, {SGT, l(0, neg(1)), 3, 1}, {SGT, l(neg(1), 0), 3, 0}, {SGT, l(1, 1), 3, 0},
		{EQ, l(pow(200), pow(200)), 3, 1}, {EQ, l(pow(200), pow(201)), 3, 0}, {ISZERO, l(0), 3, 1}, {ISZERO, l(pow(255)), 3, 0},
		{AND, l(12, 10), 3, 8}, {OR, l(12, 10), 3, 14}, {XOR, l(12, 10), 3, 6}, {NOT, l(0), 3, top()},
		{BYTE, l(31, 0x1234), 3, 0x34}, {BYTE, l(32, 0x1234), 3, 0}, {SHL, l(4, 1), 3, 16}, {SHR, l(4, 0x100), 3, 0x10}, {SAR, l(1, neg(4)), 3, neg(2)},
		{KECCAK256, l(0, 0), 30, hash(nil)}, {KECCAK256, l(0, 32), 39, hash(make([]byte, 32))}, {KECCAK256, l(1, 32), 42, hash(make([]byte, 32))}, {KECCAK256, l(0, 33), 48, hash(make([]byte, 33))},
		{ADDRESS, nil, 2, self}, {ORIGIN, nil, 2, addr(76)}, {CALLER, nil, 2, caller}, {CALLVALUE, nil, 2, 7}, {CALLDATASIZE, nil, 2, 3}, {GASPRICE, nil, 2, 74}, {RETURNDATASIZE, nil, 2, 0},
		{BALANCE, l(purse), 2600, 1000}, {BALANCE, l(nobody), 2600, 0}, {EXTCODESIZE, l(purse), 2600, 0}, {EXTCODEHASH, l(purse), 2600, hash(nil)}, {EXTCODEHASH, l(nobody), 2600, 0},
		{CALLDATALOAD, l(0), 3, word.Shl(num(232), num(0x010203))}, {CALLDATALOAD, l(2), 3, word.Shl(num(248), num(3))},
		{CALLDATACOPY, l(0, 0, 0), 3, nil}, {CALLDATACOPY, l(0, 0, 32), 9, nil}, {CODECOPY, l(0, 0, 33), 15, nil}, {EXTCODECOPY, l(purse, 0, 0, 32), 2606, nil}, {RETURNDATACOPY, l(0, 0, 0), 3, nil},
		{COINBASE, nil, 2, addr(75)}, {TIMESTAMP, nil, 2, 73}, {NUMBER, nil, 2, 72}, {GASLIMIT, nil, 2, 2000000}, {CHAINID, nil, 2, 71}, {SELFBALANCE, nil, 5, 1007}, {BASEFEE, nil, 2, 0},
		{CODESIZE, nil, 2, nil}, {PC, nil, 2, nil}, {GAS, nil, 2, nil}, // what they put is told by tests of their own
		{POP, l(1), 2, nil}, {MLOAD, l(0), 6, 0}, {MLOAD, l(1), 9, 0}, {MSTORE, l(0, 1), 6, nil}, {MSTORE8, l(31, 1), 6, nil}, {MSTORE8, l(32, 1), 9, nil},
		{SLOAD, l(9), 2100, 0}, {SSTORE, l(0, 1), 22100, nil},
		{JUMPI, l(top(), 0), 10, nil}, {MSIZE, nil, 2, 0}, {JUMPDEST, nil, 1, nil}, {PUSH0, nil, 2, 0},
		{CREATE, l(0, 0, 0), 32000, evm.Address(self, 0)}, {CREATE, l(0, 0, 32), 32005, evm.Address(self, 0)},
		{CREATE2, l(0, 0, 0, 5), 32000, evm.Address2(self, num(5), nil)}, {CREATE2, l(0, 0, 32, 5), 32011, evm.Address2(self, num(5), make([]byte, 32))},
		{CALL, l(0, nobody, 0, 0, 0, 0, 0), 2600, 1}, {CALL, l(0, purse, 0, 0, 32, 0, 64), 2606, 1},
		{DELEGATECALL, l(0, nobody, 0, 0, 0, 0), 2600, 1}, {STATICCALL, l(0, nobody, 0, 0, 0, 0), 2600, 1},
	}
	for n := range 16 {
		deep, swapped := l(100), l(100)
		for i := 1; i < n+1; i++ {
			deep, swapped = append(deep, 100+i), append(swapped, 100+i)
		}
		out = append(out, row{DUP1 + op(n), deep, 3, 100 + n}, row{SWAP1 + op(n), append(swapped, 99), 3, 99})
	}
	for n := range 5 {
		args := l(0, 32)
		for i := range n {
			args = append(args, i)
		}
		out = append(out, row{LOG0 + op(n), args, uint64(375 + 375*n + 8*32 + 3), nil})
	}
	return out
}

// valued: the message of the rows.
func valued(text []byte, gas uint64, static bool) evm.Out {
	return evm.Call(world(text), someEnv, evm.Msg{Caller: caller, To: self, Value: num(7), Data: []byte{1, 2, 3}, Gas: gas, Static: static})
}

// pushed: what the words of a row cost.
func (r row) pushed() uint64 {
	n := uint64(0)
	for _, x := range r.args {
		n += 3
		if word.Zero(wordOf(x)) {
			n--
		}
	}
	return n
}

// P1302: each opcode: what it takes, puts and costs; with just enough gas, and with one less.
func TestOpcodes(t *testing.T) {
	for _, r := range rows() {
		what := fmt.Sprintf("%02x of %v", byte(r.op), r.args)
		text := code(backwards(r.args), r.op)
		need := r.pushed() + r.cost
		out := valued(text, need, false)
		is(t, what+": Err and Left with just enough gas", fmt.Sprint(int(out.Err), out.Left), "0 0")
		fails(t, what+": one less", valued(text, need-1, false), api.ErrGas)
		out = valued(text, need+12345, false)
		is(t, what+": Err and Left with more", fmt.Sprint(int(out.Err), out.Left), "0 12345")
		if r.put != nil {
			out = valued(code(text, give()), 100000, false)
			is(t, what+" puts", words(t, out.Data), []api.Word{wordOf(r.put)})
		}
	}
}

// P1302: each opcode with one word too few, whatever else is wrong.
func TestTooFewWords(t *testing.T) {
	met := map[op]bool{}
	list := append(rows(), row{JUMP, []any{0}, 8, nil}, row{RETURN, []any{0, 0}, 0, nil}, row{REVERT, []any{0, 0}, 0, nil})
	for _, r := range list {
		met[r.op] = true
		if len(r.args) == 0 {
			continue
		}
		few := row{op: r.op, args: r.args[:len(r.args)-1]}
		text := code(backwards(few.args), r.op)
		for _, static := range []bool{false, true} {
			what := fmt.Sprintf("%02x of %v, static %v", byte(r.op), few.args, static)
			fails(t, what, valued(text, 100000, static), api.ErrStack)
			fails(t, what+", no gas left", valued(text, few.pushed(), static), api.ErrStack)
		}
	}
	for _, b := range known { // the rest are met by tests of their own
		if o := op(b); !met[o] && o != STOP && (o < PUSH1 || o > PUSH32) {
			t.Errorf("no row for %02x", b)
		}
	}
}

// P1302: each opcode on a stack that is full behind its words: just those that leave more than they take end with ErrStack. How many words fit on it thereafter tells how many the opcode has left.
func TestFullStack(t *testing.T) {
	list := rows()
	for n := range 33 {
		list = append(list, row{op: PUSH0 + op(n)})
	}
	for _, r := range list {
		takes, leaves, _ := plainShape(r.op)
		what := fmt.Sprintf("%02x of %v", byte(r.op), r.args)
		follows := []byte{}
		if r.op > PUSH0 && r.op <= PUSH32 {
			follows = make([]byte, r.op-PUSH0)
		}
		for fill := 1023 - len(r.args); fill <= 1024-len(r.args); fill++ {
			text := code(times(fill, 0), backwards(r.args), r.op, follows)
			behind := fill + len(r.args) - takes + leaves
			if behind > 1024 {
				fails(t, what+", full", valued(text, 100000, false), api.ErrStack)
				need := r.pushed() + uint64(2*fill)
				fails(t, what+", full, no gas left", valued(text, need, false), api.ErrStack)
				continue
			}
			is(t, what+": Err", int(valued(text, 100000, false).Err), 0)
			is(t, what+": up to the bound", int(valued(code(text, times(1024-behind, 0)), 100000, false).Err), 0)
			fails(t, what+": one beyond", valued(code(text, times(1025-behind, 0)), 100000, false), api.ErrStack)
		}
	}
}

// P1302: within a static frame those that change something end with ErrStatic, ahead of ErrGas; all others do what they do.
func TestStaticOpcodes(t *testing.T) {
	list := append(rows(), row{CALL, []any{0, nobody, 1, 0, 0, 0, 0}, 0, nil}, row{CALL, []any{0, self, pow(255), 0, 0, 0, 0}, 0, nil}, row{CALL, []any{0, purse, 1, top(), 1, 0, 0}, 0, nil},
		row{LOG0, []any{top(), 1}, 0, nil}, row{CREATE, []any{0, 0, 65536}, 0, nil}, row{CREATE2, []any{pow(255), 0, top(), 0}, 0, nil})
	for _, r := range list {
		what := fmt.Sprintf("static %02x of %v", byte(r.op), r.args)
		text := code(backwards(r.args), r.op)
		changes := r.op == SSTORE || r.op >= LOG0 && r.op <= LOG0+4 || r.op == CREATE || r.op == CREATE2 || r.op == CALL && !word.Zero(wordOf(r.args[2]))
		if !changes {
			out := valued(text, 100000, true)
			is(t, what+": Err and Left", fmt.Sprint(int(out.Err), out.Left), fmt.Sprint(0, 100000-r.pushed()-r.cost))
			continue
		}
		for _, gas := range []uint64{r.pushed(), 100000} {
			fails(t, what, valued(text, gas, true), api.ErrStatic)
		}
	}
}

// P1302: ErrOp comes ahead of all: with no gas, on an empty stack, in a static frame.
func TestNoOpcode(t *testing.T) {
	for b := range 256 {
		for _, static := range []bool{false, true} {
			out := valued([]byte{byte(b)}, 0, static)
			if isKnown(byte(b)) == (out.Err == api.ErrOp) {
				t.Errorf("%02x: %+v", b, out)
			}
		}
	}
}

// P1302: ErrGas comes ahead of an opcode's own errors.
func TestGasAheadOfOwn(t *testing.T) {
	for _, r := range []row{
		{JUMP, []any{1000}, 8, api.ErrJump}, {JUMPI, []any{1000, 1}, 10, api.ErrJump}, {RETURNDATACOPY, []any{0, 1, 0}, 3, api.ErrBounds},
		{RETURNDATACOPY, []any{0, 0, 33}, 15, api.ErrBounds},
	} {
		text := code(backwards(r.args), r.op)
		what := fmt.Sprintf("%02x of %v", byte(r.op), r.args)
		fails(t, what, valued(text, r.pushed()+r.cost, false), r.put.(api.Errno))
		fails(t, what+", one less", valued(text, r.pushed()+r.cost-1, false), api.ErrGas)
	}
	for _, size := range []any{65537, uint64(1) << 63, pow(64), top()} { // what is too great for memory is ErrGas, too
		fails(t, fmt.Sprint("RETURNDATACOPY of ", size), valued(code(size, top(), 0, RETURNDATACOPY), 100000, false), api.ErrGas)
	}
}
