package evm

import (
	"conclave/api"
	"conclave/word"
)

// opcode: what a step asks, and what it does.
type opcode struct {
	takes, puts int                 // words of the stack; those that stay where they are count as both
	gas         uint64              // what it costs in any case
	more        func(f *frame)      // pays what hangs on the words that it takes; nil, if nothing does
	changes     func(f *frame) bool // would it change something that lasts? nil, if it never does
	do          func(f *frame)      // nil, if it is no opcode
}

// opcodes: by their bytes.
func opcodes() [256]opcode {
	var ops [256]opcode
	addSums(&ops)
	addOrders(&ops)
	addTold(&ops)
	addAsked(&ops)
	addMemory(&ops)
	addCopies(&ops)
	addPlaces(&ops)
	addStack(&ops)
	addStorage(&ops)
	addLogs(&ops)
	addMessages(&ops)
	return ops
}

// does: an opcode with a cost that hangs on nothing.
func does(takes, puts int, cost uint64, do func(f *frame)) opcode {
	return opcode{takes: takes, puts: puts, gas: cost, do: do}
}

// paying: the same opcode, with more to pay.
func (op opcode) paying(more func(f *frame)) opcode {
	op.more = more
	return op
}

// changing: the same opcode, which may not be in a static frame where that holds.
func (op opcode) changing(when func(f *frame) bool) opcode {
	op.changes = when
	return op
}

// always: whatever the opcode takes.
func always(*frame) bool { return true }

// one, two, three: opcodes that put a function of the words that they take.
func one(cost uint64, of func(a api.Word) api.Word) opcode {
	return does(1, 1, cost, func(f *frame) { f.push(of(f.pop())) })
}

func two(cost uint64, of func(a, b api.Word) api.Word) opcode {
	return does(2, 1, cost, func(f *frame) { f.push(of(f.pop(), f.pop())) })
}

func three(cost uint64, of func(a, b, c api.Word) api.Word) opcode {
	return does(3, 1, cost, func(f *frame) { f.push(of(f.pop(), f.pop(), f.pop())) })
}

func addSums(ops *[256]opcode) {
	ops[0x01] = two(3, word.Add)
	ops[0x02] = two(5, word.Mul)
	ops[0x03] = two(3, word.Sub)
	ops[0x04] = two(5, word.Div)
	ops[0x05] = two(5, word.Sdiv)
	ops[0x06] = two(5, word.Mod)
	ops[0x07] = two(5, word.Smod)
	ops[0x08] = three(8, word.Addmod)
	ops[0x09] = three(8, word.Mulmod)
	ops[0x0a] = two(0, word.Exp).paying((*frame).payExp)
	ops[0x0b] = two(5, word.Signext)
	ops[0x16] = two(3, word.And)
	ops[0x17] = two(3, word.Or)
	ops[0x18] = two(3, word.Xor)
	ops[0x19] = one(3, word.Not)
	ops[0x1a] = two(3, word.Byte)
	ops[0x1b] = two(3, word.Shl)
	ops[0x1c] = two(3, word.Shr)
	ops[0x1d] = two(3, word.Sar)
}

func addOrders(ops *[256]opcode) {
	when := func(compare func(a, b api.Word) int, is int) opcode {
		return two(3, func(a, b api.Word) api.Word { return truth(compare(a, b) == is) })
	}
	ops[0x10] = when(word.Cmp, -1)  // LT
	ops[0x11] = when(word.Cmp, 1)   // GT
	ops[0x12] = when(word.Scmp, -1) // SLT
	ops[0x13] = when(word.Scmp, 1)  // SGT
	ops[0x14] = when(word.Cmp, 0)   // EQ
	ops[0x15] = one(3, func(a api.Word) api.Word { return truth(word.Zero(a)) })
}

// tells: an opcode that puts what a frame knows without looking further.
func tells(of func(f *frame) api.Word) opcode {
	return does(0, 1, 2, func(f *frame) { f.push(of(f)) })
}

func addTold(ops *[256]opcode) {
	ops[0x30] = tells(func(f *frame) api.Word { return wordOf(f.msg.To[:]) })       // ADDRESS
	ops[0x32] = tells(func(f *frame) api.Word { return wordOf(f.env.Origin[:]) })   // ORIGIN
	ops[0x33] = tells(func(f *frame) api.Word { return wordOf(f.msg.Caller[:]) })   // CALLER
	ops[0x34] = tells(func(f *frame) api.Word { return f.msg.Value })               // CALLVALUE
	ops[0x36] = tells(func(f *frame) api.Word { return sizeOf(f.msg.Data) })        // CALLDATASIZE
	ops[0x38] = tells(func(f *frame) api.Word { return sizeOf(f.code) })            // CODESIZE
	ops[0x3a] = tells(func(f *frame) api.Word { return word.Of(f.env.Price) })      // GASPRICE
	ops[0x3d] = tells(func(f *frame) api.Word { return sizeOf(f.given) })           // RETURNDATASIZE
	ops[0x41] = tells(func(f *frame) api.Word { return wordOf(f.env.Proposer[:]) }) // COINBASE
	ops[0x42] = tells(func(f *frame) api.Word { return word.Of(f.env.Time) })       // TIMESTAMP
	ops[0x43] = tells(func(f *frame) api.Word { return word.Of(f.env.Height) })     // NUMBER
	ops[0x45] = tells(func(*frame) api.Word { return word.Of(api.BlockGas) })       // GASLIMIT
	ops[0x46] = tells(func(f *frame) api.Word { return word.Of(f.env.Chain) })      // CHAINID
	ops[0x48] = tells(func(*frame) api.Word { return api.Word{} })                  // BASEFEE
	ops[0x58] = tells(func(f *frame) api.Word { return word.Of(uint64(f.place)) })  // PC
	ops[0x59] = tells(func(f *frame) api.Word { return sizeOf(f.memory) })          // MSIZE
	ops[0x5a] = tells(func(f *frame) api.Word { return word.Of(f.gas) })            // GAS
}

// asks: an opcode that puts what the state knows of an account.
func asks(of func(f *frame, a api.Addr) api.Word) opcode {
	return does(1, 1, 0, func(f *frame) { f.push(of(f, account(f.pop()))) }).paying((*frame).payAccess)
}

func addAsked(ops *[256]opcode) {
	ops[0x31] = asks((*frame).balance)                                        // BALANCE
	ops[0x3b] = asks((*frame).codeSize)                                       // EXTCODESIZE
	ops[0x3f] = asks((*frame).codeHash)                                       // EXTCODEHASH
	ops[0x47] = does(0, 1, 5, func(f *frame) { f.push(f.balance(f.msg.To)) }) // SELFBALANCE
}

func addMemory(ops *[256]opcode) {
	payWord := func(f *frame) { f.use(f.peek(0), word.Of(wordBytes)) }
	payByte := func(f *frame) { f.use(f.peek(0), word.Of(1)) }
	ops[0x20] = does(2, 1, 0, (*frame).hash).paying((*frame).payHash) // KECCAK256
	ops[0x51] = does(1, 1, 3, (*frame).load).paying(payWord)          // MLOAD
	ops[0x52] = does(2, 0, 3, (*frame).store).paying(payWord)         // MSTORE
	ops[0x53] = does(2, 0, 3, (*frame).storeByte).paying(payByte)     // MSTORE8
}

// copies: an opcode that copies bytes to memory; what tells the bytes may take words ahead of the three that all take.
func copies(takes int, cost uint64, more func(f *frame), of func(f *frame) []byte) opcode {
	return does(takes, 0, cost, func(f *frame) {
		b := of(f)
		place, from, size := f.pop(), f.pop(), f.pop()
		fill(f.used(place, size), b, from)
	}).paying(more)
}

func addCopies(ops *[256]opcode) {
	data := func(f *frame) []byte { return f.msg.Data }
	own := func(f *frame) []byte { return f.code }
	other := func(f *frame) []byte { return f.state.Code(account(f.pop())) }
	ops[0x35] = does(1, 1, 3, (*frame).loadData)                       // CALLDATALOAD
	ops[0x37] = copies(3, 3, (*frame).payCopy, data)                   // CALLDATACOPY
	ops[0x39] = copies(3, 3, (*frame).payCopy, own)                    // CODECOPY
	ops[0x3c] = copies(4, 0, (*frame).payCodeCopy, other)              // EXTCODECOPY
	ops[0x3e] = copies(3, 3, (*frame).payCopy, (*frame).givenInBounds) // RETURNDATACOPY
}

func addPlaces(ops *[256]opcode) {
	ops[stop] = does(0, 0, 0, func(*frame) { panic(ending{}) })
	ops[0x56] = does(1, 0, 8, func(f *frame) { f.jump(f.pop()) }) // JUMP
	ops[0x57] = does(2, 0, 10, (*frame).jumpIf)                   // JUMPI
	ops[jumpdest] = does(0, 0, 1, func(*frame) {})
	ops[0xf3] = does(2, 0, 0, func(f *frame) { f.give(api.OK) }).paying((*frame).payGive)        // RETURN
	ops[0xfd] = does(2, 0, 0, func(f *frame) { f.give(api.ErrRevert) }).paying((*frame).payGive) // REVERT
}

func addStack(ops *[256]opcode) {
	ops[0x50] = does(1, 0, 2, func(f *frame) { f.pop() }) // POP
	ops[push0] = does(0, 1, 2, func(f *frame) { f.push(api.Word{}) })
	for n := 1; n <= wordBytes; n++ {
		ops[push0+n] = does(0, 1, 3, func(f *frame) { f.pushCode(n) }) // PUSH1 to PUSH32
	}
	for n := 1; n <= 16; n++ {
		ops[0x7f+n] = does(n, n+1, 3, func(f *frame) { f.push(f.peek(n - 1)) }) // DUP1 to DUP16
		ops[0x8f+n] = does(n+1, n+1, 3, func(f *frame) { f.swap(n) })           // SWAP1 to SWAP16
	}
}

func addStorage(ops *[256]opcode) {
	ops[0x54] = does(1, 1, 0, (*frame).loadSlot).paying((*frame).paySload)                    // SLOAD
	ops[0x55] = does(2, 0, 0, (*frame).storeSlot).paying((*frame).paySstore).changing(always) // SSTORE
}

func addLogs(ops *[256]opcode) {
	for n := range 5 {
		pay := func(f *frame) { f.payLog(n) }
		ops[0xa0+n] = does(2+n, 0, 0, func(f *frame) { f.log(n) }).paying(pay).changing(always) // LOG0 to LOG4
	}
}
