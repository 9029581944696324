package evm_test

import (
	"bytes"
	"fmt"
	"math"
	"testing"

	"conclave/api"
	"conclave/evm"
)

// size0: each opcode with memory of size 0 at a place, or at two; what it costs and how many words it puts.
func size0(place any) []row {
	l := func(args ...any) []any { return args }
	return []row{
		{KECCAK256, l(place, 0), 30, 1}, {CALLDATACOPY, l(place, 0, 0), 3, 0}, {CODECOPY, l(place, 0, 0), 3, 0}, {EXTCODECOPY, l(purse, place, 0, 0), 2600, 0}, {RETURNDATACOPY, l(place, 0, 0), 3, 0},
		{LOG0, l(place, 0), 375, 0}, {LOG0 + 4, l(place, 0, 1, 2, 3, 4), 375 * 5, 0}, {CREATE, l(0, place, 0), 32000, 1}, {CREATE2, l(0, place, 0, 7), 32000, 1},
		{CALL, l(0, purse, 0, place, 0, place, 0), 2600, 1}, {DELEGATECALL, l(0, purse, place, 0, place, 0), 2600, 1}, {STATICCALL, l(0, purse, place, 0, place, 0), 2600, 1},
	}
}

// P1302: memory of size 0 is nothing, wherever it is.
func TestMemoryOfSize0(t *testing.T) {
	for _, place := range []any{0, 1, 65535, 65536, 65537, uint64(math.MaxUint64), pow(64), pow(255), top()} {
		for _, r := range size0(place) {
			what := fmt.Sprintf("%02x of %v", byte(r.op), r.args)
			out := call(world(code(backwards(r.args), r.op)))
			is(t, what+": Err and Left", fmt.Sprint(int(out.Err), out.Left), fmt.Sprint(0, 1000000-r.pushed()-r.cost))
			gives(t, what+": MSIZE", world(code(backwards(r.args), r.op, MSIZE, give())), 0)
		}
		for o, err := range map[op]api.Errno{RETURN: api.OK, REVERT: api.ErrRevert} {
			out := call(world(code(0, place, o)))
			is(t, fmt.Sprintf("%02x of %v, 0", byte(o), place), fmt.Sprint(int(out.Err), len(out.Data)), fmt.Sprint(int(err), 0))
		}
	}
}

// reaches: each opcode that uses memory, with that place and size; of MLOAD, MSTORE and MSTORE8 the size is their own.
func reaches(place, size any) []row {
	l := func(args ...any) []any { return args }
	return []row{
		{KECCAK256, l(place, size), 0, nil}, {CALLDATACOPY, l(place, 0, size), 0, nil}, {CODECOPY, l(place, 0, size), 0, nil}, {EXTCODECOPY, l(purse, place, 0, size), 0, nil},
		{LOG0, l(place, size), 0, nil}, {LOG0 + 1, l(place, size, 1), 0, nil}, {LOG0 + 4, l(place, size, 1, 2, 3, 4), 0, nil}, {RETURN, l(place, size), 0, nil}, {REVERT, l(place, size), 0, nil},
		{CALL, l(0, purse, 0, place, size, 0, 0), 0, nil}, {CALL, l(0, purse, 0, 0, 0, place, size), 0, nil}, {DELEGATECALL, l(0, purse, place, size, 0, 0), 0, nil}, {DELEGATECALL, l(0, purse, 0, 0, place, size), 0, nil},
		{STATICCALL, l(0, purse, place, size, 0, 0), 0, nil}, {STATICCALL, l(0, purse, 0, 0, place, size), 0, nil},
	}
}

// P1302: memory goes up to MaxMemory and not beyond, whatever gas there is; nor is there any at places and of sizes beyond 64 bits.
func TestMemoryBound(t *testing.T) {
	for _, x := range []struct {
		place, size any
		fits        bool
	}{
		{0, 65536, true}, {1, 65535, true}, {65535, 1, true}, {65504, 32, true}, {65505, 31, true}, {32768, 32768, true},
		{0, 65537, false}, {1, 65536, false}, {65536, 1, false}, {65505, 32, false}, {65535, 2, false}, {65536, 32, false}, {32768, 32769, false},
		{uint64(math.MaxUint64), 1, false}, {uint64(math.MaxUint64), uint64(math.MaxUint64), false}, {1, uint64(math.MaxUint64), false}, {uint64(math.MaxUint64), 32, false}, {0, uint64(math.MaxUint64), false},
		{pow(64), 1, false}, {pow(128), 1, false}, {pow(192), 32, false}, {pow(255), 1, false}, {top(), 1, false}, {top(), 2, false}, {0, pow(64), false}, {0, pow(128), false}, {0, pow(192), false}, {0, top(), false}, {1, top(), false}, {pow(64), pow(64), false}, {top(), top(), false},
	} {
		for _, r := range reaches(x.place, x.size) {
			what := fmt.Sprintf("%02x of %v", byte(r.op), r.args)
			out := callWith(world(code(backwards(r.args), r.op)), math.MaxUint64)
			if !x.fits {
				fails(t, what, out, api.ErrGas)
				continue
			}
			want := api.OK
			if r.op == REVERT {
				want = api.ErrRevert
			}
			is(t, what, int(out.Err), int(want))
		}
	}
}

// P1302: the opcodes whose size is their own, at the bound and beyond it.
func TestMemoryBoundOfWords(t *testing.T) {
	for _, r := range []row{
		{MLOAD, []any{65504}, 14339, nil}, {MSTORE, []any{65504, 1}, 14339, nil}, {MSTORE8, []any{65535, 1}, 14339, nil}, {MLOAD, []any{65472}, 3 + 6141 + 8184, nil},
	} {
		what := fmt.Sprintf("%02x of %v", byte(r.op), r.args)
		out := call(world(code(backwards(r.args), r.op)))
		is(t, what, fmt.Sprint(int(out.Err), out.Left), fmt.Sprint(0, 1000000-r.pushed()-r.cost))
	}
	for _, place := range []any{65536, 65537, uint64(math.MaxUint64) - 31, uint64(math.MaxUint64), pow(64), pow(192), pow(255), top()} {
		for _, o := range []op{MLOAD, MSTORE, MSTORE8} {
			fails(t, fmt.Sprintf("%02x of %v", byte(o), place), callWith(world(code(1, place, o)), math.MaxUint64), api.ErrGas)
		}
	}
	for _, place := range []any{65505, 65535} {
		for _, o := range []op{MLOAD, MSTORE} {
			fails(t, fmt.Sprintf("%02x of %v", byte(o), place), callWith(world(code(1, place, o)), math.MaxUint64), api.ErrGas)
		}
	}
}

// P1302: what memory costs as it goes up: for each place the whole that was paid so far, for what was there nothing again.
func TestMemoryCost(t *testing.T) {
	text := []byte{}
	pushes := uint64(0)
	for _, x := range []struct{ place, size, paid uint64 }{
		{0, 32, 3}, {0, 32, 3}, {0, 64, 6}, {31, 64, 9}, {256, 1, 27}, {0, 288, 27}, {32, 0, 27}, {736, 1, 73}, // 24 words: 72 and 576 / 512
		{1000, 24, 98}, {32736, 32, 5120}, {32768, 1, 5127}, {32799, 1, 5127}, {32800, 1, 5134}, {65535, 1, 14336}, {0, 65536, 14336},
	} {
		text = append(text, code(x.size, 0, x.place, CALLDATACOPY)...)
		pushes += row{args: []any{x.size, 0, x.place}}.pushed() + 3 + (x.size+31)/32*3
		is(t, fmt.Sprint("memory of ", x.place, ", ", x.size), used(t, text), pushes+x.paid)
	}
}

// P1302: memory's size goes up by whole words, by use alone.
func TestMemorySize(t *testing.T) {
	for place, want := range map[any]int{0: 32, 1: 64, 32: 64, 33: 96, 63: 96, 64: 96, 65504: 65536} {
		gives(t, fmt.Sprint("MSIZE behind MLOAD of ", place), world(code(place, MLOAD, POP, MSIZE, give())), want)
	}
	gives(t, "MSIZE of a fresh frame", world(code(MSIZE, give())), 0)
	gives(t, "MSIZE behind less", world(code(100, MLOAD, POP, 0, MLOAD, POP, MSIZE, give())), 160)
	gives(t, "MSIZE behind both memories of a call", world(code(1, 100, 1, 200, 0, nobody, 0, CALL, POP, MSIZE, give())), 224)
	gives(t, "MSIZE behind both memories of a call, turned round", world(code(1, 200, 1, 100, nobody, 0, STATICCALL, POP, MSIZE, give())), 224)
}

// P1302: both memories of a call are paid as one.
func TestMemoryOfCalls(t *testing.T) {
	for _, x := range []struct{ in, inSize, out, outSize, cost uint64 }{
		{0, 32, 0, 32, 3}, {0, 32, 32, 32, 6}, {32, 32, 0, 32, 6}, {0, 0, 0, 32, 3}, {0, 32, 0, 0, 3}, {0, 1, 735, 1, 69 + 1}, {735, 1, 0, 1, 69 + 1}, {0, 736, 736, 1, 73}, {99999, 0, 0, 1, 3},
	} {
		rest := backwards([]any{x.in, x.inSize, x.out, x.outSize})
		push := row{args: []any{x.in, x.inSize, x.out, x.outSize, 0, purse}}.pushed()
		for _, o := range []op{DELEGATECALL, STATICCALL} {
			is(t, fmt.Sprintf("%02x of %+v", byte(o), x), used(t, code(rest, purse, 0, o)), push+2600+x.cost)
		}
		is(t, fmt.Sprintf("CALL of %+v", x), used(t, code(rest, 0, purse, 0, CALL)), push+2+2600+x.cost)
	}
}

// P1302: words and bytes that are stored and loaded, across words.
func TestStoreAndLoad(t *testing.T) {
	w := wordOf(unhex("0102030405060708090a0b0c0d0e0f101112131415161718191a1b1c1d1e1f20"))
	gives(t, "MLOAD of MSTORE", world(code(w, 5, MSTORE, 5, MLOAD, give())), w)
	gives(t, "MLOAD one byte on", world(code(w, 0, MSTORE, 1, MLOAD, give())), wordOf(unhex("02030405060708090a0b0c0d0e0f101112131415161718191a1b1c1d1e1f2000")))
	gives(t, "MSTORE over MSTORE", world(code(top(), 0, MSTORE, w, 31, MSTORE, 64, 0, RETURN)),
		unhex("ffffffffffffffffffffffffffffffffffffffffffffffffffffffffffffff01"), unhex("02030405060708090a0b0c0d0e0f101112131415161718191a1b1c1d1e1f2000"))
	gives(t, "MSTORE8", world(code(top(), 0, MSTORE, w, 3, MSTORE8, 32, 0, RETURN)), unhex("ffffff20ffffffffffffffffffffffffffffffffffffffffffffffffffffffff"))
	gives(t, "fresh memory", world(code(64, 32, RETURN)), 0, 0)
}

// P1302: RETURN and REVERT give memory, and pay for it.
func TestGive(t *testing.T) {
	for o, err := range map[op]api.Errno{RETURN: api.OK, REVERT: api.ErrRevert} {
		for _, x := range []struct {
			place, size, cost uint64
			want              string
		}{
			{0, 0, 0, ""}, {0, 1, 0, "a0"}, {31, 1, 0, "bf"}, {30, 2, 0, "bebf"}, {31, 2, 3, "bf00"}, {32, 32, 3, fmt.Sprintf("%064x", 0)}, {64, 1, 6, "00"},
		} {
			what := fmt.Sprintf("%02x of %d, %d", byte(o), x.place, x.size)
			text := code(unhex("7fa0a1a2a3a4a5a6a7a8a9aaabacadaeafb0b1b2b3b4b5b6b7b8b9babbbcbdbebf"), 0, MSTORE, x.size, x.place, o)
			need := 3 + 2 + 6 + row{args: []any{x.size, x.place}}.pushed() + x.cost
			out := callWith(world(text), need+77)
			is(t, what, fmt.Sprintf("%d %d %x", int(out.Err), out.Left, out.Data), fmt.Sprintf("%d %d %s", int(err), 77, x.want))
			out = callWith(world(text), need)
			is(t, what+", just enough gas", fmt.Sprintf("%d %d %x", int(out.Err), out.Left, out.Data), fmt.Sprintf("%d %d %s", int(err), 0, x.want))
			fails(t, what+", one less", callWith(world(text), need-1), api.ErrGas)
		}
	}
}

// cut: n bytes of b from a place on, noughts behind their end.
func cut(b []byte, from api.Word, n int) []byte {
	out := make([]byte, n)
	if from == num(from[0]) && from[0] < uint64(len(b)) {
		copy(out, b[from[0]:])
	}
	return out
}

// P1302: CALLDATALOAD, CALLDATACOPY, CODECOPY and EXTCODECOPY from within, across and beyond the end, and from places beyond 64 bits.
func TestCopies(t *testing.T) {
	data := []byte{1, 2, 3, 4, 5, 6, 7, 8, 9, 10, 11, 12, 13, 14, 15, 16, 17, 18, 19, 20, 21, 22, 23, 24, 25, 26, 27, 28, 29, 30, 31, 32, 33, 34, 35, 36, 37, 38, 39, 40}
	others := bytes.Repeat([]byte{0xfe, 0xdc, 0xba}, 14)
	for _, from := range []api.Word{num(0), num(1), num(7), num(8), num(9), num(39), num(40), num(41), num(42), num(43), num(100), num(math.MaxUint64), pow(64), word64(1, 1), pow(128), pow(192), pow(255), neg(1), neg(32)} {
		send := func(text []byte) evm.Out {
			s := with(text, others)
			return evm.Call(s, someEnv, evm.Msg{Caller: caller, To: self, Data: data, Gas: 1000000})
		}
		out := send(code(from, CALLDATALOAD, give()))
		is(t, fmt.Sprint("CALLDATALOAD of ", from), out.Data, cut(data, from, 32))
		for _, size := range []int{0, 1, 3, 31, 32, 33, 40, 41, 64, 90} {
			full := code(top(), 0, MSTORE, top(), 32, MSTORE, top(), 64, MSTORE)
			tail := code(96, 0, RETURN)
			around := func(b []byte) []byte {
				return append(append([]byte{0xff}, b...), bytes.Repeat([]byte{0xff}, 95-len(b))...)
			}
			text := code(full, size, from, 1, CALLDATACOPY, tail)
			is(t, fmt.Sprint("CALLDATACOPY of ", from, size), send(text).Data, around(cut(data, from, size)))
			text = code(full, size, from, 1, CODECOPY, tail)
			is(t, fmt.Sprint("CODECOPY of ", from, size), send(text).Data, around(cut(text, from, size)))
			text = code(full, size, from, 1, other, EXTCODECOPY, tail)
			is(t, fmt.Sprint("EXTCODECOPY of ", from, size), send(text).Data, around(cut(others, from, size)))
		}
	}
}

func word64(low, next uint64) api.Word { return api.Word{low, next} }

// P1302: from the very end of a code, and of accounts without one.
func TestCopiesOfCode(t *testing.T) {
	text := code(32, CODESIZE, 0, CODECOPY, 32, 0, RETURN)
	gives(t, "CODECOPY from CODESIZE on", world(text), 0)
	text = code(1, 1, CODESIZE, SUB, 31, CODECOPY, 32, 0, RETURN)
	gives(t, "CODECOPY of the last byte", world(text), int(RETURN))
	for _, a := range []api.Addr{purse, nobody} {
		gives(t, "EXTCODECOPY of none", world(code(top(), 0, MSTORE, 31, 0, 0, a, EXTCODECOPY, 32, 0, RETURN)), 255)
	}
	gives(t, "EXTCODECOPY of the own code", world(code(1, 0, 31, self, EXTCODECOPY, 32, 0, RETURN)), 0x60)
	dirty := wordOf(other)
	dirty[3], dirty[2] = math.MaxUint64, dirty[2]|0xabcdef<<32
	gives(t, "EXTCODECOPY of a word with more than an address", with(code(1, 0, 31, dirty, EXTCODECOPY, 32, 0, RETURN), []byte{0x77}), 0x77)
}

// givesBytes: a code that gives these bytes, at most 32.
func givesBytes(b []byte) []byte {
	return code(wordOf(append(bytes.Clone(b), make([]byte, 32-len(b))...)), 0, MSTORE, len(b), 0, RETURN)
}

// P1302: RETURNDATACOPY at its bound and one beyond, and behind no call.
func TestReturnDataCopy(t *testing.T) {
	b := []byte{1, 2, 3, 4, 5}
	first := code(0, 0, 0, 0, 0, other, GAS, CALL, POP)
	for _, x := range []struct {
		from, size any
		fits       bool
	}{
		{0, 0, true}, {0, 5, true}, {0, 4, true}, {1, 4, true}, {4, 1, true}, {5, 0, true}, {2, 2, true},
		{0, 6, false}, {1, 5, false}, {5, 1, false}, {6, 0, false}, {6, 1, false}, {100, 100, false},
		{uint64(math.MaxUint64), 0, false}, {uint64(math.MaxUint64), 1, false}, {uint64(math.MaxUint64), 6, false}, {pow(64), 0, false}, {pow(64), 1, false}, {pow(255), 0, false}, {top(), 0, false}, {top(), 1, false}, {top(), 6, false},
	} {
		text := code(first, x.size, x.from, 0, RETURNDATACOPY, x.size, 0, RETURN)
		what := fmt.Sprint("RETURNDATACOPY of ", x.from, ", ", x.size)
		out := call(with(text, givesBytes(b)))
		if !x.fits {
			fails(t, what, out, api.ErrBounds)
			continue
		}
		is(t, what, fmt.Sprintf("%d %x", int(out.Err), out.Data), fmt.Sprintf("0 %x", cut(b, wordOf(x.from), int(wordOf(x.size)[0]))))
	}
	for size, want := range map[int]api.Errno{0: api.OK, 1: api.ErrBounds} {
		is(t, fmt.Sprint("behind no call, of size ", size), int(call(world(code(size, 0, 0, RETURNDATACOPY))).Err), int(want))
	}
	fails(t, "behind no call, from 1 on", call(world(code(0, 1, 0, RETURNDATACOPY))), api.ErrBounds)
	gives(t, "to memory with more", with(code(first, top(), 0, MSTORE, 2, 1, 4, RETURNDATACOPY, 32, 0, RETURN), givesBytes(b)), unhex("ffffffff0203ffffffffffffffffffffffffffffffffffffffffffffffffffff"))
}

// P1302: what frames have of memory is their own: a frame that is called begins with none, and leaves none behind.
func TestMemoryOfFrames(t *testing.T) {
	text := code(top(), 0, MSTORE, 0, 0, 0, 0, 0, other, GAS, CALL, POP, 32, 0, RETURN)
	gives(t, "behind a call that stores", with(text, code(5, 0, MSTORE, 0, 0, RETURN)), top())
	text = code(top(), 0, MSTORE, 32, 32, 0, 0, 0, other, GAS, CALL, POP, 32, 32, RETURN)
	gives(t, "MSIZE of a frame that is called", with(text, code(MSIZE, 32, MSTORE, 32, 32, RETURN)), 0)
}
