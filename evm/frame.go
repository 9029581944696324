package evm

import (
	"conclave/api"
	"conclave/gas"
	"conclave/word"
)

// frame: code that runs for a message, whose To is the frame's own account.
type frame struct {
	*machine
	msg    Msg
	code   []byte
	dests  []bool // of the code; nil as long as nothing has jumped
	place  int
	next   int // the place behind the step that is being done
	stack  []api.Word
	memory []byte
	gas    uint64
	given  []byte // by the last call
}

// ending: how a frame ends.
type ending struct {
	err  api.Errno
	data []byte
}

// fail: the frame ends, not well.
func fail(err api.Errno) { panic(ending{err: err}) }

// run: code runs for a message, till a panic tells how it ends; any other panic is none of the machine's and goes on.
func (m *machine) run(msg Msg, code []byte) (out Out) {
	f := &frame{machine: m, msg: msg, code: code, gas: msg.Gas}
	defer func() { out = f.ended(recover().(ending)) }()
	for {
		f.step()
	}
}

// ended: what comes of the frame's message.
func (f *frame) ended(end ending) Out {
	switch end.err {
	case api.OK, api.ErrRevert:
		return Out{Err: end.err, Left: f.gas, Data: end.data}
	}
	return Out{Err: end.err}
}

// step: the opcode at the place is asked for its errors in the chapter's order, and done.
func (f *frame) step() {
	op := &f.ops[f.here()]
	switch {
	case op.do == nil:
		fail(api.ErrOp)
	case len(f.stack) < op.takes, len(f.stack)-op.takes+op.puts > api.MaxStack:
		fail(api.ErrStack)
	case f.msg.Static && op.changes != nil && op.changes(f):
		fail(api.ErrStatic)
	}
	f.pay(op.gas)
	if op.more != nil {
		op.more(f)
	}
	f.next = f.place + 1
	op.do(f)
	f.place = f.next
	if err := f.state.Err(); err != api.OK { // a broken state answers zero to all: what goes on is idle
		fail(err)
	}
}

// here: the byte at the place.
func (f *frame) here() byte {
	if f.place < len(f.code) {
		return f.code[f.place]
	}
	return stop
}

// pay: so much gas.
func (f *frame) pay(cost uint64) {
	if f.gas < cost {
		fail(api.ErrGas)
	}
	f.gas -= cost
}

// peek: the word so deep below the stack's top, which is 0 deep.
func (f *frame) peek(deep int) api.Word { return f.stack[len(f.stack)-1-deep] }

func (f *frame) pop() api.Word {
	w := f.peek(0)
	f.stack = f.stack[:len(f.stack)-1]
	return w
}

func (f *frame) push(w api.Word) { f.stack = append(f.stack, w) }

// use: memory goes up to hold so many bytes at a place, and that is paid. Behind it a size is known to be small.
func (f *frame) use(place, size api.Word) {
	need, have := reach(place, size), uint64(len(f.memory))
	if need <= have {
		return
	}
	f.pay(gas.Memory(need) - gas.Memory(have))
	f.memory = append(f.memory, make([]byte, need-have)...)
}

// reach: the bytes of memory, in whole words, that hold so many at a place.
func reach(place, size api.Word) uint64 {
	if word.Zero(size) {
		return 0
	}
	at, atFits := word.Uint(place)
	n, nFits := word.Uint(size)
	if !atFits || !nFits || at > api.MaxMemory || n > api.MaxMemory-at {
		fail(api.ErrGas)
	}
	return wordBytes * gas.Words(at+n)
}

// used: the memory at a place that use has asked for. Of size 0 the place may be any.
func (f *frame) used(place, size api.Word) []byte {
	if word.Zero(size) {
		return nil
	}
	return f.memory[place[0] : place[0]+size[0]]
}

// fill: dst is what b has from a place on, noughts behind its end.
func fill(dst, b []byte, from api.Word) {
	n := 0
	if at, fits := word.Uint(from); fits && at < uint64(len(b)) {
		n = copy(dst, b[at:])
	}
	clear(dst[n:])
}

// jump: to a dest.
func (f *frame) jump(to api.Word) {
	if f.dests == nil {
		f.dests = Dests(f.code)
	}
	n, fits := word.Uint(to)
	if !fits || n >= uint64(len(f.dests)) || !f.dests[n] {
		fail(api.ErrJump)
	}
	f.next = int(n)
}

// account: the address of a word.
func account(w api.Word) api.Addr {
	b := word.Bytes(w)
	return api.Addr(b[len(b)-len(api.Addr{}):])
}

// wordOf: the word of bytes that are at most as many as a word's.
func wordOf(b []byte) api.Word {
	w, _ := word.Read(b)
	return w
}

// sizeOf: how many bytes there are.
func sizeOf(b []byte) api.Word { return word.Of(uint64(len(b))) }

// truth: 1 or 0.
func truth(is bool) api.Word {
	if is {
		return word.Of(1)
	}
	return api.Word{}
}
