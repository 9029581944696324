package evm_test

import (
	"bytes"
	"maps"
	"math"
	"math/big"
	"slices"

	"conclave/api"
	"conclave/evm"
	"conclave/gas"
	"conclave/word"
)

// The chapter's words said over again: numbers have no end, a snapshot is a copy of all there is, a frame is a loop over one great switch, and errors are answers.

type plainAccount struct {
	nonce   uint64
	balance *big.Int
	code    string
	slots   map[api.Word]api.Word
}

type plainSlot struct {
	a api.Addr
	k api.Word
}

type plainState struct {
	accounts map[api.Addr]plainAccount
	first    map[plainSlot]api.Word // what slots were at the beginning
	warm     map[any]bool
	refund   int64
	logs     []api.Log
}

func newPlainState() *plainState {
	return &plainState{accounts: map[api.Addr]plainAccount{}, first: map[plainSlot]api.Word{}, warm: map[any]bool{}}
}

func (s *plainState) at(a api.Addr) plainAccount {
	x := s.accounts[a]
	if x.balance == nil {
		x.balance = new(big.Int)
	}
	return x
}

func (s *plainState) copy() *plainState {
	out := &plainState{accounts: maps.Clone(s.accounts), first: s.first, warm: maps.Clone(s.warm), refund: s.refund, logs: slices.Clone(s.logs)}
	for a, x := range out.accounts {
		x.slots = maps.Clone(x.slots)
		out.accounts[a] = x
	}
	return out
}

func (s *plainState) exists(a api.Addr) bool {
	x := s.at(a)
	return x.nonce != 0 || x.balance.Sign() != 0 || x.code != ""
}

func (s *plainState) touch(what any) bool {
	was := s.warm[what]
	s.warm[what] = true
	return was
}

func (s *plainState) add(a api.Addr, n *big.Int) {
	x := s.at(a)
	x.balance = modulo(new(big.Int).Add(x.balance, n))
	s.accounts[a] = x
}

func (s *plainState) setSlot(a api.Addr, k, v api.Word) {
	x := s.at(a)
	if x.slots == nil {
		x.slots = map[api.Word]api.Word{}
	}
	x.slots[k] = v
	s.accounts[a] = x
}

func bigOf(w api.Word) *big.Int  { return new(big.Int).SetBytes(word.Bytes(w)) }
func bigNum(n uint64) *big.Int   { return new(big.Int).SetUint64(n) }
func bigPow(n uint) *big.Int     { return new(big.Int).Lsh(big.NewInt(1), n) }
func modulo(n *big.Int) *big.Int { return new(big.Int).Mod(n, bigPow(256)) }

func wordOfBig(n *big.Int) api.Word { return wordOf(modulo(n).Bytes()) }

func signed(n *big.Int) *big.Int {
	if n.Cmp(bigPow(255)) < 0 {
		return n
	}
	return new(big.Int).Sub(n, bigPow(256))
}

// addrOf: the lowest 20 bytes.
func addrOf(n *big.Int) api.Addr {
	return api.Addr(n.FillBytes(make([]byte, 32))[12:])
}

// plain: a machine, and what its steps met: opcodes with the errors that they ended with.
type plain struct {
	s   *plainState
	env evm.Env
	met map[plainMet]int
}

type plainMet struct {
	op  op
	err api.Errno
}

func (p *plain) message(m evm.Msg) evm.Out {
	if m.Create {
		return p.create(m, func(nonce uint64) api.Addr { return evm.Address(m.Caller, nonce) })
	}
	return p.call(m, m.To, true)
}

func (p *plain) call(m evm.Msg, codeOf api.Addr, moves bool) evm.Out {
	if m.Depth > 1024 {
		return evm.Out{Err: api.ErrDeep, Left: m.Gas}
	}
	if moves && bigOf(m.Value).Cmp(p.s.at(m.Caller).balance) > 0 {
		return evm.Out{Err: api.ErrFunds, Left: m.Gas}
	}
	back := p.s.copy()
	if moves {
		p.s.add(m.Caller, new(big.Int).Neg(bigOf(m.Value)))
		p.s.add(m.To, bigOf(m.Value))
	}
	out := p.frame(m, []byte(p.s.at(codeOf).code))
	if out.Err != api.OK {
		p.s = back
	}
	return out
}

func (p *plain) create(m evm.Msg, address func(nonce uint64) api.Addr) evm.Out {
	if m.Depth > 1024 {
		return evm.Out{Err: api.ErrDeep, Left: m.Gas}
	}
	maker := p.s.at(m.Caller)
	if bigOf(m.Value).Cmp(maker.balance) > 0 {
		return evm.Out{Err: api.ErrFunds, Left: m.Gas}
	}
	if maker.nonce == math.MaxUint64 {
		return evm.Out{Err: api.ErrNonce, Left: m.Gas}
	}
	maker.nonce++
	p.s.accounts[m.Caller] = maker
	made := address(maker.nonce - 1)
	p.s.touch(made)
	if x := p.s.at(made); x.nonce != 0 || x.code != "" {
		return evm.Out{Err: api.ErrExists}
	}
	back := p.s.copy()
	x := p.s.at(made)
	x.nonce = 1
	p.s.accounts[made] = x
	p.s.add(m.Caller, new(big.Int).Neg(bigOf(m.Value)))
	p.s.add(made, bigOf(m.Value))
	init := m.Data
	m.To, m.Data = made, nil
	out := p.frame(m, init)
	cost := 200 * uint64(len(out.Data))
	switch {
	case out.Err != api.OK:
	case len(out.Data) > 24576 || bytes.HasPrefix(out.Data, []byte{0xef}):
		out = evm.Out{Err: api.ErrCode}
	case out.Left < cost:
		out = evm.Out{Err: api.ErrGas}
	default:
		x := p.s.at(made)
		x.code = string(out.Data)
		p.s.accounts[made] = x
		return evm.Out{Left: out.Left - cost, Made: made}
	}
	p.s = back
	return out
}

// plainShapes: how many words those take and leave that are not like others.
var plainShapes = map[op][2]int{
	STOP: {0, 0}, ADDMOD: {3, 1}, MULMOD: {3, 1}, ISZERO: {1, 1}, NOT: {1, 1}, BALANCE: {1, 1}, CALLDATALOAD: {1, 1},
	CALLDATACOPY: {3, 0}, CODECOPY: {3, 0}, EXTCODESIZE: {1, 1}, EXTCODECOPY: {4, 0}, RETURNDATACOPY: {3, 0}, EXTCODEHASH: {1, 1},
	POP: {1, 0}, MLOAD: {1, 1}, MSTORE: {2, 0}, MSTORE8: {2, 0}, SLOAD: {1, 1}, SSTORE: {2, 0}, JUMP: {1, 0}, JUMPI: {2, 0}, JUMPDEST: {0, 0},
	CREATE: {3, 1}, CALL: {7, 1}, RETURN: {2, 0}, DELEGATECALL: {6, 1}, CREATE2: {4, 1}, STATICCALL: {6, 1}, REVERT: {2, 0},
}

// plainShape: how many words an opcode takes and leaves, by the chapter's table.
func plainShape(o op) (takes, leaves int, known bool) {
	switch {
	case !isKnown(byte(o)):
		return 0, 0, false
	case o >= 0x60 && o <= 0x7f, o == 0x30, o >= 0x32 && o <= 0x34, o == 0x36, o == 0x38, o == 0x3a, o == 0x3d,
		o >= 0x41 && o <= 0x48, o >= 0x58 && o <= 0x5a, o == 0x5f:
		return 0, 1, true
	case o >= 0x80 && o <= 0x8f:
		return int(o-0x80) + 1, int(o-0x80) + 2, true
	case o >= 0x90 && o <= 0x9f:
		return int(o-0x90) + 2, int(o-0x90) + 2, true
	case o >= 0xa0 && o <= 0xa4:
		return int(o-0xa0) + 2, 0, true
	}
	if x, ok := plainShapes[o]; ok {
		return x[0], x[1], true
	}
	return 2, 1, true
}

// plainCost: of those whose cost is a number.
func plainCost(o op) uint64 {
	switch o {
	case STOP, EXP, KECCAK256, BALANCE, EXTCODESIZE, EXTCODEHASH, EXTCODECOPY, SLOAD, SSTORE, CREATE, CREATE2, CALL, DELEGATECALL, STATICCALL, RETURN, REVERT, 0xa0, 0xa1, 0xa2, 0xa3, 0xa4:
		return 0
	case JUMPDEST:
		return 1
	case 0x30, 0x32, 0x33, 0x34, 0x36, 0x38, 0x3a, 0x3d, 0x41, 0x42, 0x43, 0x45, 0x46, 0x48, POP, PC, MSIZE, GAS, PUSH0:
		return 2
	case MUL, DIV, SDIV, MOD, SMOD, SIGNEXTEND, SELFBALANCE:
		return 5
	case ADDMOD, MULMOD, JUMP:
		return 8
	case JUMPI:
		return 10
	}
	return 3
}

type plainFrame struct {
	*plain
	m      evm.Msg
	code   []byte
	place  int
	stack  []*big.Int // the top first
	memory []byte
	gas    *big.Int
	last   []byte
}

func (p *plain) frame(m evm.Msg, code []byte) evm.Out {
	f := &plainFrame{plain: p, m: m, code: code, gas: bigNum(m.Gas)}
	for {
		o := STOP
		if f.place < len(code) {
			o = op(code[f.place])
		}
		ends, err, given := f.step(o)
		p.met[plainMet{o, err}]++
		switch {
		case err == api.OK && ends:
			return evm.Out{Left: f.gas.Uint64(), Data: given}
		case err == api.ErrRevert:
			return evm.Out{Err: err, Left: f.gas.Uint64(), Data: given}
		case err != api.OK:
			return evm.Out{Err: err}
		}
	}
}

// step: does it end the frame, with which error, and what does it give?
func (f *plainFrame) step(o op) (bool, api.Errno, []byte) {
	takes, leaves, known := plainShape(o)
	if !known {
		return true, api.ErrOp, nil
	}
	if len(f.stack) < takes || len(f.stack)-takes+leaves > 1024 {
		return true, api.ErrStack, nil
	}
	if f.m.Static && (o == SSTORE || o >= 0xa0 && o <= 0xa4 || o == CREATE || o == CREATE2 || o == CALL && f.stack[2].Sign() != 0) {
		return true, api.ErrStatic, nil
	}
	cost, size, ok := f.costs(o)
	if !ok || f.gas.Cmp(cost) < 0 {
		return true, api.ErrGas, nil
	}
	f.gas = new(big.Int).Sub(f.gas, cost)
	f.memory = append(f.memory, make([]byte, size-len(f.memory))...)
	x := f.stack[:takes]
	if o >= 0x80 && o <= 0x9f {
		f.shuffle(o)
		return false, api.OK, nil
	}
	f.stack = f.stack[takes:]
	switch o {
	case STOP:
		return true, api.OK, nil
	case RETURN:
		return true, api.OK, f.part(x[0], x[1])
	case REVERT:
		return true, api.ErrRevert, f.part(x[0], x[1])
	case JUMP, JUMPI:
		if o == JUMPI && x[1].Sign() == 0 {
			f.place++
			return false, api.OK, nil
		}
		dests := plainDests(f.code)
		if !x[0].IsInt64() || !dests[int(x[0].Int64())] {
			return true, api.ErrJump, nil
		}
		f.place = int(x[0].Int64())
		return false, api.OK, nil
	case RETURNDATACOPY:
		if new(big.Int).Add(x[1], x[2]).Cmp(bigNum(uint64(len(f.last)))) > 0 {
			return true, api.ErrBounds, nil
		}
	}
	if put := f.do(o, x); put != nil {
		f.stack = append([]*big.Int{modulo(put)}, f.stack...)
	}
	f.place++
	if o >= 0x60 && o <= 0x7f {
		f.place += int(o) - 0x5f
	}
	return false, api.OK, nil
}

func (f *plainFrame) shuffle(o op) {
	if o < 0x90 {
		f.stack = append([]*big.Int{f.stack[o-0x80]}, f.stack...)
	} else {
		f.stack = slices.Clone(f.stack)
		n := int(o-0x90) + 1
		f.stack[0], f.stack[n] = f.stack[n], f.stack[0]
	}
	f.place++
}

// plainDests: the places to which may be jumped.
func plainDests(code []byte) map[int]bool {
	out := map[int]bool{}
	for i := 0; i < len(code); i++ {
		if code[i] == 0x5b {
			out[i] = true
		}
		if code[i] >= 0x60 && code[i] <= 0x7f {
			i += int(code[i]) - 0x5f
		}
	}
	return out
}

// plainSpans: which words tell the places and sizes of memory.
func plainSpans(o op, x []*big.Int) [][2]*big.Int {
	switch o {
	case KECCAK256, RETURN, REVERT, 0xa0, 0xa1, 0xa2, 0xa3, 0xa4:
		return [][2]*big.Int{{x[0], x[1]}}
	case CALLDATACOPY, CODECOPY, RETURNDATACOPY:
		return [][2]*big.Int{{x[0], x[2]}}
	case EXTCODECOPY:
		return [][2]*big.Int{{x[1], x[3]}}
	case MLOAD, MSTORE:
		return [][2]*big.Int{{x[0], big.NewInt(32)}}
	case MSTORE8:
		return [][2]*big.Int{{x[0], big.NewInt(1)}}
	case CREATE, CREATE2:
		return [][2]*big.Int{{x[1], x[2]}}
	case CALL:
		return [][2]*big.Int{{x[3], x[4]}, {x[5], x[6]}}
	case DELEGATECALL, STATICCALL:
		return [][2]*big.Int{{x[2], x[3]}, {x[4], x[5]}}
	}
	return nil
}

// costs: what the step costs, how much memory there is behind it, and false, where memory would be too great or another rule asks for ErrGas.
func (f *plainFrame) costs(o op) (*big.Int, int, bool) {
	size := len(f.memory)
	for _, s := range plainSpans(o, f.stack) {
		end := new(big.Int).Add(s[0], s[1])
		if s[1].Sign() == 0 {
			continue
		}
		if end.Cmp(big.NewInt(65536)) > 0 {
			return nil, 0, false
		}
		size = max(size, (int(end.Int64())+31)/32*32)
	}
	cost := plainCost(o) + gas.Memory(uint64(size)) - gas.Memory(uint64(len(f.memory)))
	x := f.stack
	n := func(i int) uint64 { return x[i].Uint64() } // of sizes that were asked above
	switch o {
	case EXP:
		cost += gas.Exp(wordOfBig(x[1]))
	case KECCAK256:
		cost += gas.Hash(n(1))
	case BALANCE, EXTCODESIZE, EXTCODEHASH:
		cost += gas.Access(f.s.touch(addrOf(x[0])))
	case CALLDATACOPY, CODECOPY, RETURNDATACOPY:
		cost += gas.Copy(n(2))
	case EXTCODECOPY:
		cost += gas.Access(f.s.touch(addrOf(x[0]))) + gas.Copy(n(3))
	case SLOAD:
		cost += gas.Sload(f.s.touch(plainSlot{f.m.To, wordOfBig(x[0])}))
	case SSTORE:
		at := plainSlot{f.m.To, wordOfBig(x[0])}
		c, _ := gas.Sstore(f.s.first[at], f.s.at(at.a).slots[at.k], wordOfBig(x[1]), f.s.touch(at))
		cost += c
		return bigNum(cost), size, f.gas.Cmp(big.NewInt(2300)) > 0
	case 0xa0, 0xa1, 0xa2, 0xa3, 0xa4:
		cost += gas.Log(int(o-0xa0), n(1))
	case CREATE, CREATE2:
		cost += gas.Create(n(2), o == CREATE2)
		return bigNum(cost), size, n(2) <= 49152
	case CALL, DELEGATECALL, STATICCALL:
		to := addrOf(x[1])
		cost += gas.Call(f.s.touch(to), o == CALL && x[2].Sign() != 0, f.s.exists(to))
	}
	return bigNum(cost), size, true
}

// part: bytes of memory.
func (f *plainFrame) part(place, size *big.Int) []byte {
	if size.Sign() == 0 {
		return nil
	}
	return bytes.Clone(f.memory[place.Int64() : place.Int64()+size.Int64()])
}

// padded: the byte at a place, or 0 behind the end.
func padded(b []byte, at *big.Int) byte {
	if at.Cmp(bigNum(uint64(len(b)))) >= 0 {
		return 0
	}
	return b[at.Int64()]
}

// pour: size bytes of b from a place on, to memory.
func (f *plainFrame) pour(to *big.Int, b []byte, from, size *big.Int) {
	for i := range size.Int64() {
		f.memory[to.Int64()+i] = padded(b, new(big.Int).Add(from, big.NewInt(i)))
	}
}
