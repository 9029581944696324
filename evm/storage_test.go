package evm_test

import (
	"fmt"
	"testing"

	"conclave/api"
	"conclave/evm"
	"conclave/keccak"
	"conclave/state"
	"conclave/trie"
	"conclave/word"
)

// storing: a world in which self's slot 0 is first.
func storing(text []byte, first uint64) *state.State {
	s := world(text)
	s.SetSlot(self, num(0), num(first))
	s.Begin()
	return s
}

// P1302: SSTORE with 2300, 2301 and enough gas: it wants more than 2300, though it may cost less.
func TestSstoreGas(t *testing.T) {
	same := code(0, 0, SSTORE) // costs 2200 of a slot that is not warm
	fails(t, "2300 left", callWith(world(same), 4+2300), api.ErrGas)
	out := callWith(world(same), 4+2301)
	is(t, "2301 left", fmt.Sprint(int(out.Err), out.Left), "0 101")
	warm := code(0, SLOAD, 0, 0, SSTORE, 0, 0, SSTORE) // costs 100 of a warm one
	fails(t, "a warm slot, 2300 left at the first", callWith(world(warm), 2+2100+4+2300), api.ErrGas)
	fails(t, "a warm slot, 2300 left at the second", callWith(world(warm), 2+2100+4+100+4+2300), api.ErrGas)
	out = callWith(world(warm), 2+2100+4+100+4+2301)
	is(t, "a warm slot, 2301 left", fmt.Sprint(int(out.Err), out.Left), "0 2201")
	set := code(1, 0, SSTORE)
	for _, gas := range []uint64{5 + 2300, 5 + 2301, 5 + 22099} {
		s := world(set)
		fails(t, fmt.Sprint("a slot that comes to be, with ", gas), callWith(s, gas), api.ErrGas)
		is(t, "its slot", s.Slot(self, num(0)), num(0))
	}
	s := world(set)
	out = callWith(s, 5+22100)
	is(t, "enough", fmt.Sprint(int(out.Err), out.Left, s.Slot(self, num(0))), fmt.Sprint(0, 0, num(1)))
}

// P1302: what SSTORE costs by what the slot was first, is now and shall be, and what it adds to the refund.
func TestSstore(t *testing.T) {
	for _, x := range []struct {
		first  uint64
		values []uint64
		cost   uint64
		refund int64
	}{
		{0, []uint64{0}, 2200, 0}, {0, []uint64{1}, 22100, 0}, {0, []uint64{1, 1}, 22200, 0}, {0, []uint64{1, 2}, 22200, 0}, {0, []uint64{1, 0}, 22200, 19900}, {0, []uint64{1, 0, 1}, 22200 + 20000, 19900},
		{5, []uint64{5}, 2200, 0}, {5, []uint64{6}, 5000, 0}, {5, []uint64{0}, 5000, 4800}, {5, []uint64{0, 6}, 5100, 0}, {5, []uint64{0, 5}, 5100, 2800}, {5, []uint64{6, 5}, 5100, 2800}, {5, []uint64{6, 0}, 5100, 4800}, {5, []uint64{0, 0}, 5100, 4800}, {5, []uint64{6, 7, 0, 5}, 5300, 2800},
	} {
		var text []byte
		pushes := uint64(0)
		for _, v := range x.values {
			text = append(text, code(v, 0, SSTORE)...)
			pushes += row{args: []any{v, 0}}.pushed()
		}
		what := fmt.Sprintf("%d, then %d", x.first, x.values)
		s := storing(text, x.first)
		out := call(s)
		is(t, what+": Err", int(out.Err), 0)
		is(t, what+": cost", 1000000-out.Left-pushes, x.cost)
		is(t, what+": refund", s.Refund(), x.refund)
		is(t, what+": slot", s.Slot(self, num(0)), num(x.values[len(x.values)-1]))
	}
}

// P1302: slots are of the frame's own account, and words in their whole range.
func TestSlots(t *testing.T) {
	s := with(code(top(), pow(255), SSTORE, 0, 0, 0, 0, 0, other, GAS, CALL, POP, pow(255), SLOAD, give()), code(7, pow(255), SSTORE))
	gives(t, "SLOAD", s, top())
	is(t, "the slots", fmt.Sprint(s.Slot(self, pow(255)), s.Slot(other, pow(255)), s.Slot(self, num(0))), fmt.Sprint(top(), num(7), num(0)))
}

// P1302: SLOAD, warm and not: by itself, by SSTORE, by another frame of the same account, but not by another account's.
func TestSloadWarm(t *testing.T) {
	is(t, "once", used(t, code(1, SLOAD)), 3+2100)
	is(t, "twice", used(t, code(1, SLOAD, 1, SLOAD)), 3+2100+3+100)
	is(t, "two slots", used(t, code(1, SLOAD, 2, SLOAD)), 3+2100+3+2100)
	is(t, "behind SSTORE", used(t, code(1, 1, SSTORE, 1, SLOAD)), 6+22100+3+100)
	is(t, "SSTORE behind it", used(t, code(1, SLOAD, 1, 1, SSTORE)), 3+2100+6+20000)
	s := with(code(0, 0, 0, 0, other, GAS, DELEGATECALL, 1, SLOAD, 2, SLOAD), code(1, SLOAD))
	out := call(s)
	is(t, "behind a frame of the own account", 1000000-out.Left, 8+3+2+2600+3+2100+3+100+3+2100)
	s = with(code(0, 0, 0, 0, other, GAS, STATICCALL, 1, SLOAD), code(1, SLOAD))
	out = call(s)
	is(t, "behind a frame of another account", 1000000-out.Left, 8+3+2+2600+3+2100+3+2100)
	s = world(code(1, SLOAD))
	s.WarmSlot(self, num(1))
	is(t, "warm at the beginning", callWith(s, 103).Left, 0)
	is(t, "warm behind it", fmt.Sprint(s.WarmSlot(self, num(1)), s.WarmSlot(self, num(2)), s.WarmSlot(other, num(1))), "true false false")
}

// P1302: BALANCE, EXTCODESIZE, EXTCODEHASH and EXTCODECOPY of accounts that are and are not, warm and not.
func TestAccess(t *testing.T) {
	othersCode := code(1, 2, 3)
	dirty := wordOf(other)
	dirty[3] = 1 << 63
	dirty[2] |= 1 << 32 // the lowest bit above an address
	for _, x := range []struct {
		a             any
		balance, size uint64
		hash          any
	}{
		{other, 1000, 6, keccak.Sum(othersCode)}, {dirty, 1000, 6, keccak.Sum(othersCode)}, {purse, 1000, 0, keccak.Sum(nil)}, {nobody, 0, 0, 0}, {caller, 1000, 0, keccak.Sum(nil)},
	} {
		for o, want := range map[op]any{BALANCE: x.balance, EXTCODESIZE: x.size, EXTCODEHASH: x.hash} {
			what := fmt.Sprintf("%02x of %v", byte(o), x.a)
			gives(t, what, with(code(x.a, o, give()), othersCode), want)
			is(t, what+": once", 1000000-call(with(code(x.a, o), othersCode)).Left, 3+2600)
			is(t, what+": twice", 1000000-call(with(code(x.a, o, x.a, o), othersCode)).Left, 3+2600+3+100)
			is(t, what+": behind BALANCE", 1000000-call(with(code(x.a, BALANCE, x.a, o), othersCode)).Left, 3+2600+3+100)
			is(t, what+": ahead of EXTCODECOPY", 1000000-call(with(code(x.a, o, 0, 0, 0, x.a, EXTCODECOPY), othersCode)).Left, 3+2600+9+100)
			s := with(code(x.a, o), othersCode)
			s.Warm(api.Addr(word20(x.a)))
			is(t, what+": warm at the beginning", 1000000-call(s).Left, 3+100)
		}
	}
	gives(t, "EXTCODESIZE of the own account", world(code(self, EXTCODESIZE, give())), 28)
	s := world(code(purse, BALANCE))
	call(s)
	is(t, "what is warm behind it", fmt.Sprint(s.Warm(purse), s.Warm(self), s.Warm(caller), s.Warm(nobody)), "true false false false")
	is(t, "two accounts", used(t, code(purse, BALANCE, nobody, BALANCE)), 2*(3+2600))
}

// word20: the lowest 20 bytes of a word.
func word20(x any) []byte { return word.Bytes(wordOf(x))[12:] }

// P1302: LOG0 to LOG4: topics in their order, and the bytes; what they cost.
func TestLogs(t *testing.T) {
	data := unhex("a0a1a2a3a4a5a6a7a8a9aaabacadaeafb0b1b2b3b4b5b6b7b8b9babbbcbdbebf")
	for n := range 5 {
		for _, x := range []struct {
			place, size, memory uint64
			want                []byte
		}{
			{0, 0, 0, nil}, {0, 32, 0, data}, {1, 3, 0, data[1:4]}, {30, 4, 3, []byte{0xbe, 0xbf, 0, 0}}, {64, 1, 6, []byte{0}},
		} {
			args := []any{x.place, x.size}
			topics := []api.Word{}
			for i := range n {
				topics = append(topics, pow(uint64(10*i+100)))
				args = append(args, topics[i])
			}
			what := fmt.Sprintf("LOG%d of %d, %d", n, x.place, x.size)
			s := world(code(wordOf(data), 0, MSTORE, backwards(args), LOG0+op(n)))
			out := call(s)
			is(t, what+": Err", int(out.Err), 0)
			is(t, what+": cost", 1000000-out.Left, 11+row{args: args}.pushed()+uint64(375+375*n)+8*x.size+x.memory)
			is(t, what, fmt.Sprintf("%x", s.Logs()), fmt.Sprintf("%x", []api.Log{{Addr: self, Topics: topics, Data: x.want}}))
		}
	}
	s := with(code(1, 0, 0, LOG0+1, 0, 0, 0, 0, 0, other, GAS, CALL, 0, 0, 0, 0, other, GAS, DELEGATECALL, 2, 0, 0, LOG0+1), code(3, 0, 0, LOG0+1))
	call(s)
	told := ""
	for _, l := range s.Logs() {
		told += fmt.Sprintf("%x %d, ", l.Addr[19], l.Topics[0][0])
	}
	is(t, "whose logs, in which order", told, "5e 1, 7 3, 5e 3, 5e 2, ")
}

// P1302: refund and logs of what is reverted are gone, and nothing else of them.
func TestRevertedRefundAndLogs(t *testing.T) {
	change := code(0, 0, SSTORE, 9, 0, 0, LOG0+1) // of a slot that is 5
	end := map[string][]byte{"well": code(STOP), "reverts": code(0, 0, REVERT), "fails": code(INVALID)}
	for name, tail := range end {
		for _, o := range []op{CALL, DELEGATECALL} {
			args := code(0, 0, 0, 0)
			if o == CALL {
				args = code(args, 0)
			}
			text := code(0, 0, SSTORE, 1, 0, 0, LOG0+1, args, other, 100000, o, 2, 0, 0, LOG0+1)
			s := state.Open(trie.Empty(), nil)
			for a, c := range map[api.Addr][]byte{self: text, other: code(0, 1, SSTORE, change, tail)} {
				s.SetCode(a, c)
				s.SetSlot(a, num(0), num(5))
				s.SetSlot(a, num(1), num(5))
			}
			s.Begin()
			s.AddRefund(7)
			out := call(s)
			is(t, name+": Err", int(out.Err), 0)
			refund, topics, slot := int64(7+4800), "1 2 ", num(5)
			if name == "well" {
				refund, topics, slot = 7+3*4800, "1 9 2 ", num(0)
				if o == DELEGATECALL { // slot 0 is gone already
					refund = 7 + 2*4800
				}
			}
			told := ""
			for _, l := range s.Logs() {
				told += fmt.Sprint(l.Topics[0][0], " ")
			}
			own := map[op]api.Addr{CALL: other, DELEGATECALL: self}[o]
			is(t, fmt.Sprintf("%s, %02x", name, byte(o)), fmt.Sprint(s.Refund(), " ", told, s.Slot(own, num(1))), fmt.Sprint(refund, " ", topics, slot))
		}
	}
	s := storing(code(0, 0, SSTORE, 0, 0, LOG0, 0, 0, REVERT), 5)
	s.AddRefund(-3)
	s.Log(api.Log{Addr: purse})
	out := evm.Call(s, someEnv, evm.Msg{Caller: caller, To: self, Gas: 100000})
	is(t, "a message that reverts", fmt.Sprint(int(out.Err), s.Refund(), len(s.Logs()), s.Slot(self, num(0))), fmt.Sprint(57, -3, 1, num(5)))
}
