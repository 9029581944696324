package evm_test

import (
	"bytes"
	"encoding/hex"
	"fmt"
	"math"
	"strings"
	"testing"

	"conclave/api"
	"conclave/evm"
	"conclave/keccak"
	"conclave/state"
	"conclave/trie"
	"conclave/word"
)

// is: as it should be.
func is(t *testing.T, what string, got, want any) {
	t.Helper()
	if got, want := fmt.Sprint(got), fmt.Sprint(want); got != want {
		t.Errorf("%s: %.400s, not %.400s", what, got, want)
	}
}

func unhex(s string) []byte {
	b, err := hex.DecodeString(strings.ReplaceAll(s, " ", ""))
	if err != nil {
		panic(err)
	}
	return b
}

func num(n uint64) api.Word { return api.Word{n} }

// neg: 0 less n.
func neg(n uint64) api.Word { return word.Sub(api.Word{}, num(n)) }

func top() api.Word { return neg(1) }

// pow: 2 to the n.
func pow(n uint64) api.Word { return word.Shl(num(n), num(1)) }

// addr: an address with something in all its parts.
func addr(c byte) api.Addr { return api.Addr{0: ^c, 4: 0x80, 11: 1, 12: 2, 19: c} }

// wordOf: a word of a number, an address, a hash or at most 32 bytes.
func wordOf(x any) api.Word {
	switch x := x.(type) {
	case api.Word:
		return x
	case int:
		return num(uint64(x))
	case uint64:
		return num(x)
	case api.Addr:
		return wordOf(x[:])
	case api.Hash:
		return wordOf(x[:])
	case []byte:
		w, err := word.Read(x)
		if err != api.OK {
			panic(err)
		}
		return w
	}
	panic(fmt.Sprintf("no word: %v", x))
}

// code: opcodes and bytes as they are; what else makes a word is pushed: 0 by PUSH0, others by the shortest PUSH.
func code(parts ...any) []byte {
	var out []byte
	for _, p := range parts {
		switch p := p.(type) {
		case op:
			out = append(out, byte(p))
		case []byte:
			out = append(out, p...)
		default:
			b := word.Short(wordOf(p))
			out = append(append(out, 0x5f+byte(len(b))), b...)
		}
	}
	return out
}

// times: a part of a code, again and again.
func times(n int, part ...any) []byte { return bytes.Repeat(code(part...), n) }

// give: ends with the word on the stack's top.
func give() []byte { return code(0, MSTORE, 32, 0, RETURN) }

// words: what code gave, word by word.
func words(t *testing.T, b []byte) []api.Word {
	t.Helper()
	if len(b)%32 != 0 {
		t.Errorf("given are no words: %x", b)
	}
	var out []api.Word
	for len(b) >= 32 {
		out = append(out, wordOf(b[:32]))
		b = b[32:]
	}
	return out
}

// Accounts that tests meet: who calls, the one whose code runs, one that has code and one that has none, and one that is not there.
var (
	caller  = addr(0xca)
	self    = addr(0x5e)
	other   = addr(0x07)
	purse   = addr(0x9e)
	nobody  = addr(0x0b)
	rich    = uint64(1000)
	someEnv = evm.Env{Chain: 71, Height: 72, Time: 73, Price: 74, Proposer: addr(75), Origin: addr(76)}
)

// world: a state in which self has this code, and all but nobody have something.
func world(code []byte) *state.State {
	s := state.Open(trie.Empty(), nil)
	s.SetBalance(caller, num(rich))
	s.SetBalance(self, num(rich))
	s.SetCode(self, code)
	s.SetBalance(other, num(rich))
	s.SetBalance(purse, num(rich))
	s.SetNonce(purse, 3)
	s.Begin()
	return s
}

// with: the world, and code of the other account.
func with(code, othersCode []byte) *state.State {
	s := world(code)
	s.SetCode(other, othersCode)
	s.Begin()
	return s
}

// call: a message to self, with much gas.
func call(s *state.State) evm.Out { return callWith(s, 1000000) }

func callWith(s *state.State, gas uint64) evm.Out {
	return evm.Call(s, someEnv, evm.Msg{Caller: caller, To: self, Gas: gas})
}

// used: what a code costs that ends well.
func used(t *testing.T, code []byte) uint64 {
	t.Helper()
	out := call(world(code))
	is(t, fmt.Sprintf("Err of %x", code), int(out.Err), 0)
	return 1000000 - out.Left
}

// gives: code ends well, and gives these words.
func gives(t *testing.T, what string, s *state.State, want ...any) {
	t.Helper()
	out := call(s)
	is(t, what+": Err", int(out.Err), 0)
	wanted := []api.Word{}
	for _, x := range want {
		wanted = append(wanted, wordOf(x))
	}
	is(t, what, words(t, out.Data), wanted)
}

// fails: code ends with this error, and with nothing left, given or made.
func fails(t *testing.T, what string, out evm.Out, err api.Errno) {
	t.Helper()
	is(t, what, fmt.Sprintf("%+v", out), fmt.Sprintf("%+v", evm.Out{Err: err}))
}

// P1302: the chapter's example, with its gas, and one less.
func TestExample(t *testing.T) {
	five := unhex("60 02 60 03 01 60 00 52 60 20 60 00 f3")
	gives(t, "the example", world(five), 5)
	is(t, "its cost", used(t, five), 24)
	out := callWith(world(five), 24)
	is(t, "with 24 of gas", fmt.Sprint(int(out.Err), out.Left, words(t, out.Data)), fmt.Sprint(0, 0, []api.Word{num(5)}))
	fails(t, "with 23 of gas", callWith(world(five), 23), api.ErrGas)
}

// knownBytes: the chapter's column of bytes, without fe.
const knownBytes = `00 01 02 03 04 05 06 07 08 09 0a 0b 10 11 12 13 14 15 16 17 18 19 1a 1b 1c 1d 20
30 32 33 34 36 38 3a 3d 31 3b 3f 35 37 39 3c 3e 41 42 43 45 46 47 48 50 51 52 53 54 55 56 57 58 59 5a 5b
5f 60 61 62 63 64 65 66 67 68 69 6a 6b 6c 6d 6e 6f 70 71 72 73 74 75 76 77 78 79 7a 7b 7c 7d 7e 7f
80 81 82 83 84 85 86 87 88 89 8a 8b 8c 8d 8e 8f 90 91 92 93 94 95 96 97 98 99 9a 9b 9c 9d 9e 9f
a0 a1 a2 a3 a4 f0 f5 f1 f4 fa f3 fd`

// known: the same, as bytes.
var known = unhex(strings.ReplaceAll(knownBytes, "\n", " "))

func isKnown(b byte) bool { return bytes.IndexByte(known, b) >= 0 }

// P1301: Known of all bytes; and those that are not known end a frame with ErrOp, whatever is on the stack.
func TestKnown(t *testing.T) {
	count := 0
	for b := range 256 {
		is(t, fmt.Sprintf("Known of %02x", b), evm.Known(byte(b)), isKnown(byte(b)))
		if isKnown(byte(b)) {
			count++
			continue
		}
		fails(t, fmt.Sprintf("%02x", b), call(world([]byte{byte(b)})), api.ErrOp)
		fails(t, fmt.Sprintf("%02x on a full stack", b), call(world(code(times(1024, 0), []byte{byte(b)}))), api.ErrOp)
	}
	is(t, "how many are known", count, 139)
	for _, b := range []byte{0x0c, 0x1e, 0x21, 0x40, 0x44, 0x49, 0x5c, 0x5e, 0xa5, 0xf2, 0xf6, 0xfe, 0xff} {
		is(t, fmt.Sprintf("Known of %02x", b), evm.Known(b), false)
	}
}

// P1301: Dests, written out.
func TestDestsByBytes(t *testing.T) {
	for text, want := range map[string]string{
		"":               "",
		"00":             "0",
		"5b":             "1",
		"5b5b":           "11",
		"605b5b":         "001",
		"5b605b5b":       "1001",
		"5f5b":           "01",
		"615b5b5b":       "0001",
		"60605b":         "001",
		"6060605b5b":     "00001",
		"5e5b":           "01",
		"805b":           "01",
		"60":             "0",
		"605b":           "00",
		"615b":           "00",
		"7f5b5b5b":       "0000",
		"fe5b":           "01",
		"5b7e005b":       "1000",
		"565b005b60":     "01010",
		"605b605b605b5b": "0000001",
	} {
		got := ""
		for _, d := range evm.Dests(unhex(text)) {
			got += map[bool]string{false: "0", true: "1"}[d]
		}
		is(t, "Dests of "+text, got, want)
	}
	is(t, "Dests of nil", len(evm.Dests(nil)), 0)
}

// P1301: 5b within and behind what each opcode takes, and where the code ends within that.
func TestDestsOfPushes(t *testing.T) {
	for b := range 256 {
		takes := 0
		if b >= 0x60 && b <= 0x7f {
			takes = b - 0x5f
		}
		for length := 1; length < 36; length++ {
			text := append([]byte{byte(b)}, bytes.Repeat([]byte{0x5b}, length-1)...)
			want := make([]bool, length)
			for i := range want {
				want[i] = i > takes || b == 0x5b
			}
			is(t, fmt.Sprintf("Dests of %x", text), evm.Dests(text), want)
		}
	}
}

// P1301: what is handed in stays, what is handed out is new.
func TestDestsMemory(t *testing.T) {
	room := unhex("5b605b5b5b")
	first := evm.Dests(room[:3])
	is(t, "the code", hex.EncodeToString(room), "5b605b5b5b")
	for i := range first[:cap(first)] {
		first[:cap(first)][i] = true
	}
	is(t, "Dests again", evm.Dests(room[:3]), "[true false false]")
}

// plainAddress: the encoding of the list put together by hand.
func plainAddress(from api.Addr, nonce uint64) string {
	short := bytes.TrimLeft(word.Bytes(num(nonce)), "\x00")
	if len(short) != 1 || short[0] >= 0x80 {
		short = append([]byte{0x80 + byte(len(short))}, short...)
	}
	list := append(append([]byte{0x94}, from[:]...), short...)
	h := keccak.Sum(append([]byte{0xc0 + byte(len(list))}, list...))
	return hex.EncodeToString(h[12:])
}

// P1301: Address, as other programs tell it, and by hand at the edges of nonces.
func TestAddress(t *testing.T) {
	from := api.Addr(unhex("6ac7ea33f8831ea9dcc53393aaa88b25a785dbf0"))
	for nonce, want := range []string{
		"cd234a471b72ba2f1ccf0a70fcaba648a5eecd8d",
		"343c43a37d37dff08ae8c4a11544c718abb4fcf8",
		"f778b86fa74e846c4f0a1fbd1335fe81c00a0c91",
		"fffd933a0bc612844eaf0c6fe3e5b8e9b6c1d19c",
	} {
		got := evm.Address(from, uint64(nonce))
		is(t, fmt.Sprint("Address of nonce ", nonce), hex.EncodeToString(got[:]), want)
	}
	for _, a := range []api.Addr{{}, from, addr(1), {0: 1}} {
		for _, nonce := range []uint64{0, 1, 55, 127, 128, 255, 256, 65535, 65536, 1 << 32, 1 << 56, math.MaxUint64 - 1, math.MaxUint64} {
			got := evm.Address(a, nonce)
			is(t, fmt.Sprint("Address of ", a, nonce), hex.EncodeToString(got[:]), plainAddress(a, nonce))
		}
	}
}

// P1301: Address2, as its proposal (EIP-1014) tells it.
func TestAddress2(t *testing.T) {
	long := strings.Repeat("deadbeef", 11)
	for _, r := range []struct{ from, salt, code, want string }{
		{"", "", "00", "4d1a2e2bb4f88f0250f26ffff098b0b30b26bf38"},
		{"deadbeef00000000000000000000000000000000", "", "00", "b928f69bb1d91cd65274e3c79d8986362984fda3"},
		{"deadbeef00000000000000000000000000000000", "000000000000000000000000feed000000000000000000000000000000000000", "00", "d04116cdd17bebe565eb2422f2497e06cc1c9833"},
		{"", "", "deadbeef", "70f2b2914a2a4b783faefb75f459a580616fcb5e"},
		{"00000000000000000000000000000000deadbeef", "cafebabe", "deadbeef", "60f3f640a8508fc6a86d45df051962668e1e8ac7"},
		{"00000000000000000000000000000000deadbeef", "cafebabe", long, "1d8bfdc5d46dc4f61d6b6115972536ebe6a8854c"},
		{"", "", "", "e33c0c7f7df4809055c3eba6c09cfe4baf1bd9e0"},
	} {
		var from api.Addr
		copy(from[:], unhex(r.from))
		got := evm.Address2(from, wordOf(unhex(r.salt)), unhex(r.code))
		is(t, fmt.Sprintf("Address2 of %q, %q, %q", r.from, r.salt, r.code), hex.EncodeToString(got[:]), r.want)
	}
	a, b := evm.Address2(addr(1), top(), nil), evm.Address2(addr(1), top(), []byte{})
	is(t, "of no code, nil or empty", a == b, true)
	room := unhex("deadbeef01")
	evm.Address2(addr(1), num(1), room[:4])
	is(t, "the code", hex.EncodeToString(room), "deadbeef01")
}
