package evm

import (
	"conclave/api"
	"conclave/gas"
	"conclave/word"
)

// giftGas: comes with a value, and is not paid by who sends it.
const giftGas = 2300

func addMessages(ops *[256]opcode) {
	ops[0xf0] = makes(3, false)                                         // CREATE
	ops[0xf1] = calls(7, true, (*frame).call).changing((*frame).values) // CALL
	ops[0xf4] = calls(6, false, (*frame).callAsSelf)                    // DELEGATECALL
	ops[0xf5] = makes(4, true)                                          // CREATE2
	ops[0xfa] = calls(6, false, (*frame).callStatic)                    // STATICCALL
}

// makes: an opcode that makes a contract, whose address may hang on a salt.
func makes(takes int, salted bool) opcode {
	return does(takes, 1, 0, func(f *frame) { f.makeContract(salted) }).paying(func(f *frame) { f.payContract(salted) }).changing(always)
}

func (f *frame) payContract(salted bool) {
	place, size := f.peek(1), f.peek(2)
	f.use(place, size)
	if size[0] > api.MaxInit {
		fail(api.ErrGas)
	}
	f.pay(gas.Create(size[0], salted))
}

func (f *frame) makeContract(salted bool) {
	own, value := f.msg.To, f.pop()
	code := f.used(f.pop(), f.pop())
	address := func(nonce uint64) api.Addr { return Address(own, nonce) }
	if salted {
		salt := f.pop()
		address = func(uint64) api.Addr { return Address2(own, salt, code) }
	}
	msg := f.deeper(word.Of(f.gas))
	msg.Value, msg.Data = value, code
	out := f.create(msg, address)
	f.takeBack(out)
	f.push(wordOf(out.Made[:])) // 0, if none was made
}

// request: what a call takes from the stack.
type request struct {
	asked             api.Word
	to                api.Addr
	value             api.Word // 0 where the opcode takes none
	dataAt, dataSize  api.Word // memory for what is handed on
	givenAt, givenMax api.Word // memory for what comes back
}

// calls: an opcode that calls an account, with a value of its own or without one.
func calls(takes int, valued bool, send func(f *frame, msg Msg) Out) opcode {
	do := func(f *frame) {
		r := f.request(valued)
		f.stack = f.stack[:len(f.stack)-takes]
		f.sendRequest(r, send)
	}
	return does(takes, 1, 0, do).paying(func(f *frame) { f.payCall(f.request(valued)) })
}

// request: the one on the stack, where it stays.
func (f *frame) request(valued bool) request {
	r := request{asked: f.peek(0), to: account(f.peek(1))}
	at := 2
	if valued {
		r.value = f.peek(at)
		at++
	}
	r.dataAt, r.dataSize = f.peek(at), f.peek(at+1)
	r.givenAt, r.givenMax = f.peek(at+2), f.peek(at+3)
	return r
}

// values: would CALL send a value?
func (f *frame) values() bool { return !word.Zero(f.peek(2)) }

func (f *frame) payCall(r request) {
	f.use(r.dataAt, r.dataSize)
	f.use(r.givenAt, r.givenMax)
	f.pay(gas.Call(f.state.Warm(r.to), !word.Zero(r.value), f.state.Exists(r.to)))
}

// sendRequest: a call, and what comes back of it.
func (f *frame) sendRequest(r request, send func(f *frame, msg Msg) Out) {
	msg := f.deeper(r.asked)
	msg.To, msg.Value, msg.Data = r.to, r.value, f.used(r.dataAt, r.dataSize)
	if !word.Zero(r.value) {
		msg.Gas += giftGas
	}
	out := send(f, msg)
	f.takeBack(out)
	copy(f.used(r.givenAt, r.givenMax), out.Data)
	f.push(truth(out.Err == api.OK))
}

// callAsSelf: To's code runs as if it were the frame's own.
func (f *frame) callAsSelf(msg Msg) Out {
	codeOf := msg.To
	msg.Caller, msg.To, msg.Value = f.msg.Caller, f.msg.To, f.msg.Value
	return f.delegate(msg, codeOf)
}

func (f *frame) callStatic(msg Msg) Out {
	msg.Static = true
	return f.call(msg)
}

// deeper: a message that the frame's account sends, with as much of the asked gas as may be handed on, which is paid.
func (f *frame) deeper(asked api.Word) Msg {
	handed := gas.Forward(f.gas, asked)
	f.pay(handed)
	return Msg{Caller: f.msg.To, Gas: handed, Static: f.msg.Static, Depth: f.msg.Depth + 1}
}

// takeBack: the gas that a message has left, and what it gave.
func (f *frame) takeBack(out Out) {
	f.gas += out.Left
	f.given = out.Data
}
