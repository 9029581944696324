package evm

import (
	"bytes"

	"conclave/api"
	"conclave/gas"
	"conclave/keccak"
	"conclave/word"
)

// storeGas: with no more than that no slot is stored: who is sent a value, and no gas but what comes with it, can't.
const storeGas = 2300

func (f *frame) payExp() { f.pay(gas.Exp(f.peek(1))) }

func (f *frame) payAccess() { f.pay(gas.Access(f.state.Warm(account(f.peek(0))))) }

func (f *frame) balance(a api.Addr) api.Word { return f.state.Balance(a) }

func (f *frame) codeSize(a api.Addr) api.Word { return sizeOf(f.state.Code(a)) }

func (f *frame) codeHash(a api.Addr) api.Word {
	h := f.state.CodeHash(a)
	return wordOf(h[:])
}

func (f *frame) payHash() {
	f.use(f.peek(0), f.peek(1))
	f.pay(gas.Hash(f.peek(1)[0]))
}

func (f *frame) hash() {
	h := keccak.Sum(f.used(f.pop(), f.pop()))
	f.push(wordOf(h[:]))
}

func (f *frame) load() { f.push(wordOf(f.used(f.pop(), word.Of(wordBytes)))) }

func (f *frame) store() {
	place, w := f.pop(), f.pop()
	copy(f.used(place, word.Of(wordBytes)), word.Bytes(w))
}

func (f *frame) storeByte() {
	place, w := f.pop(), f.pop()
	f.used(place, word.Of(1))[0] = byte(w[0])
}

func (f *frame) loadData() {
	var b [wordBytes]byte
	fill(b[:], f.msg.Data, f.pop())
	f.push(wordOf(b[:]))
}

func (f *frame) payCopy() { f.payCopyBehind(0) }

// payCodeCopy: the account stands on the stack's top.
func (f *frame) payCodeCopy() {
	f.payAccess()
	f.payCopyBehind(1)
}

// payCopyBehind: of an opcode that takes so many words ahead of the place, where to begin, and the size.
func (f *frame) payCopyBehind(ahead int) {
	place, size := f.peek(ahead), f.peek(ahead+2)
	f.use(place, size)
	f.pay(gas.Copy(size[0]))
}

// givenInBounds: what the last call gave, if it has all that shall be copied.
func (f *frame) givenInBounds() []byte {
	have, size := uint64(len(f.given)), f.peek(2)[0]
	from, fits := word.Uint(f.peek(1))
	if !fits || from > have || size > have-from {
		fail(api.ErrBounds)
	}
	return f.given
}

func (f *frame) jumpIf() {
	to, when := f.pop(), f.pop()
	if !word.Zero(when) {
		f.jump(to)
	}
}

func (f *frame) payGive() { f.use(f.peek(0), f.peek(1)) }

// give: the frame ends and gives bytes of its memory.
func (f *frame) give(err api.Errno) {
	panic(ending{err: err, data: bytes.Clone(f.used(f.pop(), f.pop()))})
}

// pushCode: the n bytes of the code behind the place.
func (f *frame) pushCode(n int) {
	var b [wordBytes]byte
	fill(b[:n], f.code, word.Of(uint64(f.place+1)))
	f.push(wordOf(b[:n]))
	f.next += n
}

// swap: the top and the word so deep below it.
func (f *frame) swap(deep int) {
	top := len(f.stack) - 1
	f.stack[top], f.stack[top-deep] = f.stack[top-deep], f.stack[top]
}

func (f *frame) paySload() { f.pay(gas.Sload(f.state.WarmSlot(f.msg.To, f.peek(0)))) }

func (f *frame) loadSlot() { f.push(f.state.Slot(f.msg.To, f.pop())) }

func (f *frame) paySstore() {
	if f.gas <= storeGas {
		fail(api.ErrGas)
	}
	own, key := f.msg.To, f.peek(0)
	cost, _ := gas.Sstore(f.state.Original(own, key), f.state.Slot(own, key), f.peek(1), f.state.WarmSlot(own, key))
	f.pay(cost)
}

// storeSlot: the refund hangs on what the slot is as long as it is not changed, but not on whether it is warm.
func (f *frame) storeSlot() {
	own, key, next := f.msg.To, f.pop(), f.pop()
	_, refund := gas.Sstore(f.state.Original(own, key), f.state.Slot(own, key), next, true)
	f.state.SetSlot(own, key, next)
	f.state.AddRefund(refund)
}

func (f *frame) payLog(topics int) {
	f.use(f.peek(0), f.peek(1))
	f.pay(gas.Log(topics, f.peek(1)[0]))
}

func (f *frame) log(topics int) {
	data := f.used(f.pop(), f.pop())
	l := api.Log{Addr: f.msg.To, Data: data}
	for range topics {
		l.Topics = append(l.Topics, f.pop())
	}
	f.state.Log(l) // which takes copies
}
