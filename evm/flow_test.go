package evm_test

import (
	"bytes"
	"fmt"
	"math"
	"testing"

	"conclave/api"
	"conclave/evm"
	"conclave/word"
)

// P1302: JUMP and JUMPI to a dest, to none, into a PUSH's bytes, beyond the code and beyond 64 bits.
func TestJumps(t *testing.T) {
	tail := code(STOP, JUMPDEST, PUSH1, JUMPDEST, PUSH2, []byte{0x5b, 0x5b}, INVALID, 9, give(), JUMPDEST)
	for _, x := range []struct {
		name string
		head func(to any) []byte
	}{
		{"JUMP", func(to any) []byte { return code(to, JUMP) }},
		{"JUMPI", func(to any) []byte { return code(1, to, JUMPI) }},
		{"JUMPI of a great word", func(to any) []byte { return code(pow(255), to, JUMPI) }},
	} {
		head := x.head(pow(248)) // all places are pushed as words of 32 bytes
		whole := func(to api.Word) []byte {
			text := bytes.Clone(head)
			at := bytes.Index(text, code(pow(248)))
			copy(text[at+1:], word.Bytes(to))
			return append(text, tail...)
		}
		dest := uint64(len(head) + 1)
		last := uint64(len(head) + len(tail) - 1)
		fails(t, x.name+" to a dest with an INVALID behind it", call(world(whole(num(dest)))), api.ErrOp)
		is(t, x.name+" to the last byte", int(call(world(whole(num(last)))).Err), 0)
		for _, to := range []api.Word{
			num(0), num(1), num(dest - 1), num(dest + 1), num(dest + 2), num(dest + 3), num(dest + 4), num(dest + 5), num(last - 1), num(last + 1), num(last + 2), num(1 << 31), num(1 << 32), num(1 << 62), num(1 << 63), num(math.MaxUint64),
			word64(dest, 1), {dest, 0, 1}, {dest, 0, 0, 1}, {last, 0, 0, 1 << 63}, pow(64), pow(255), top(),
		} {
			fails(t, fmt.Sprint(x.name, " to ", to), call(world(whole(to))), api.ErrJump)
		}
	}
}

// P1302: JUMPI with 0 goes on behind it, wherever it would lead; a jump runs the JUMPDEST, which is paid.
func TestJumpOn(t *testing.T) {
	gives(t, "JUMPI of 0", world(code(0, top(), JUMPI, 3, give())), 3)
	gives(t, "JUMP over an INVALID", world(code(4, JUMP, INVALID, JUMPDEST, 3, give())), 3)
	is(t, "what that costs", used(t, code(4, JUMP, INVALID, JUMPDEST)), 3+8+1)
	is(t, "JUMPI that jumps", used(t, code(1, 6, JUMPI, INVALID, JUMPDEST)), 3+3+10+1)
	is(t, "JUMPI that does not", used(t, code(0, 6, JUMPI, STOP, JUMPDEST)), 2+3+10)
	is(t, "a loop of ten rounds", used(t, code(10, JUMPDEST, 1, SWAP1, SUB, DUP1, 2, JUMPI)), 3+10*(1+3+3+3+3+3+10))
	fails(t, "a loop without an end", callWith(world(code(JUMPDEST, 0, JUMP)), 500000), api.ErrGas)
}

// P1302: behind the code there is STOP: of no code, and behind the last byte.
func TestStop(t *testing.T) {
	for _, text := range [][]byte{nil, {0}, code(5), code(STOP, INVALID), code(JUMPDEST)} {
		out := callWith(world(text), 100)
		cost := map[bool]uint64{true: 0, false: 3}[len(text) == 0 || text[0] == 0]
		if len(text) == 1 && text[0] == 0x5b {
			cost = 1
		}
		is(t, fmt.Sprintf("%x", text), fmt.Sprintf("%+v", out), fmt.Sprintf("%+v", evm.Out{Left: 100 - cost}))
	}
	out := callWith(world(nil), 0)
	is(t, "no code and no gas", fmt.Sprintf("%+v", out), fmt.Sprintf("%+v", evm.Out{}))
}

// P1302: each PUSH takes as many bytes, in their order, and goes on behind them.
func TestPushes(t *testing.T) {
	for n := range 33 {
		var b [32]byte
		for i := range n {
			b[32-n+i] = byte(0xa0 + i)
		}
		gives(t, fmt.Sprint("PUSH", n), world(code(PUSH0+op(n), b[32-n:], give())), b[:])
		cost := uint64(3)
		if n == 0 {
			cost = 2
		}
		text := code(PUSH0+op(n), b[32-n:])
		is(t, fmt.Sprint("the cost of PUSH", n), used(t, text), cost)
		fails(t, fmt.Sprint("PUSH", n, ", one less"), callWith(world(text), cost-1), api.ErrGas)
	}
}

// P1302: a PUSH that the code's end cuts off puts its word, and the frame ends well behind it. (What word that is, nothing is left to tell.)
func TestPushesCutOff(t *testing.T) {
	for n := 1; n <= 32; n++ {
		for have := range n + 1 {
			text := append([]byte{byte(PUSH0) + byte(n)}, bytes.Repeat([]byte{0xab}, have)...)
			is(t, fmt.Sprintf("the cost of %x", text), used(t, text), 3)
			fails(t, fmt.Sprintf("%x on a full stack", text), call(world(code(times(1024, 0), text))), api.ErrStack)
		}
	}
}

// P1302: DUP and SWAP each at their depth: all words of the stack, from the top down.
func TestDepths(t *testing.T) {
	tell := func() []byte { // all 18 words, the top first
		var out []byte
		for i := range 18 {
			out = append(out, code(32*i, MSTORE)...)
		}
		return append(out, code(32*18, 0, RETURN)...)
	}
	for n := 1; n <= 16; n++ {
		var stack []any // the top first
		for i := range 18 {
			stack = append(stack, 200+i)
		}
		push := backwards(stack)
		swapped := append([]any{}, stack...)
		swapped[0], swapped[n] = swapped[n], swapped[0]
		gives(t, fmt.Sprint("SWAP", n), world(code(push, SWAP1+op(n-1), tell())), swapped...)
		doubled := append([]any{stack[n-1]}, stack[:17]...)
		gives(t, fmt.Sprint("DUP", n), world(code(push, DUP1+op(n-1), tell())), doubled...)
	}
}

// P1302: PC is the opcode's own place, GAS what is left behind it, CODESIZE all bytes.
func TestPlaceGasSize(t *testing.T) {
	gives(t, "PC at 0", world(code(PC, give())), 0)
	gives(t, "PC behind a PUSH2", world(code(PUSH2, []byte{1, 2}, PC, give())), 3)
	gives(t, "PC behind a jump", world(code(4, JUMP, INVALID, JUMPDEST, PC, give())), 5)
	gives(t, "PC twice", world(code(PC, PC, ADD, PC, ADD, give())), 0+1+3)
	gives(t, "GAS at once", world(code(GAS, give())), 999998)
	gives(t, "GAS behind a PUSH1", world(code(1, GAS, give())), 999995)
	out := callWith(world(code(GAS)), 2)
	is(t, "GAS with 2", fmt.Sprint(int(out.Err), out.Left), "0 0")
	gives(t, "CODESIZE", world(code(CODESIZE, give(), make([]byte, 300))), 301+len(give()))
	out = callWith(world(code(GAS, give())), math.MaxUint64)
	is(t, "GAS of all there can be", words(t, out.Data), []api.Word{num(math.MaxUint64 - 2)})
}

// P1302: POP takes the top.
func TestPop(t *testing.T) {
	gives(t, "POP", world(code(1, 2, 3, POP, give())), 2)
}
