package evm_test

import (
	"fmt"
	"testing"

	"conclave/api"
	"conclave/evm"
)

// changers: codes that change something; CALL with a value among them.
func changers() map[string][]byte {
	return map[string][]byte{
		"SSTORE": code(1, 1, SSTORE), "SSTORE of what is there": code(0, 1, SSTORE),
		"LOG0": code(0, 0, LOG0), "LOG1": code(1, 0, 0, LOG0+1), "LOG2": code(2, 1, 0, 0, LOG0+2), "LOG3": code(3, 2, 1, 0, 0, LOG0+3), "LOG4": code(4, 3, 2, 1, 0, 0, LOG0+4),
		"CREATE": code(0, 0, 0, CREATE), "CREATE2": code(0, 0, 0, 0, CREATE2), "CALL with a value": ask{gas: 0, to: purse, value: 1}.code(CALL),
		"CALL with a value to itself": ask{gas: 0, to: other, value: 1}.code(CALL), "CALL with a value that it has not": ask{gas: 0, to: purse, value: top()}.code(CALL),
	}
}

// P1302: each that changes something within a static frame, whichever way the frame came to be static; and the same in a frame that is not.
func TestStatic(t *testing.T) {
	for name, text := range changers() {
		text = code(text, 5, give())
		s := with(nil, text)
		out := evm.Call(s, someEnv, evm.Msg{Caller: caller, To: other, Gas: 200000})
		is(t, name+": in a frame that is not static", fmt.Sprint(int(out.Err), words(t, out.Data)), fmt.Sprint(0, []api.Word{num(5)}))
		s = with(nil, text)
		before, _ := s.Root()
		fails(t, name+": a static message", evm.Call(s, someEnv, evm.Msg{Caller: caller, To: other, Gas: 200000, Static: true}), api.ErrStatic)
		after, _ := s.Root()
		is(t, name+": the root", after, before)
		for _, o := range callOps { // a frame within a static one is static
			s := with(code(ask{gas: 100000, to: other, outSize: 32}.code(o), 0, MLOAD, giveWords(2)), text)
			out := evm.Call(s, someEnv, evm.Msg{Caller: caller, To: self, Gas: 300000, Static: true})
			is(t, fmt.Sprintf("%s: %02x within a static frame", name, byte(o)), fmt.Sprint(int(out.Err), words(t, out.Data)), fmt.Sprint(0, []api.Word{{}, {}}))
			is(t, "what it spent", 300000-out.Left, ask{gas: 1, to: other, outSize: 1}.pushes(o)+2600+3+100000+2+3+(2+3)+(3+6)+5)
		}
	}
}

// P1302: STATICCALL makes a static frame, and frames within that are, too; behind it the frame is what it was.
func TestStaticCall(t *testing.T) {
	for name, text := range changers() {
		s := world(nil)
		text = code(text, 5, give())
		s.SetCode(other, text)
		s.SetCode(self, code(ask{gas: 100000, to: other, outSize: 32}.code(STATICCALL), 0, MLOAD, giveWords(2)))
		s.Begin()
		gives(t, name+": by STATICCALL", s, 0, 0)
		for _, o := range callOps {
			s.SetCode(purse, code(ask{gas: 60000, to: other, outSize: 32}.code(o), 0, MLOAD, ADD, give()))
			s.SetCode(self, code(ask{gas: 100000, to: purse, outSize: 32}.code(STATICCALL), 0, MLOAD, giveWords(2)))
			s.Begin()
			gives(t, fmt.Sprintf("%s: by %02x within STATICCALL", name, byte(o)), s, 0, 1)
		}
		s.SetCode(purse, code(5, give()))
		s.SetCode(self, code(ask{gas: 100000, to: purse}.code(STATICCALL), text))
		s.Begin()
		gives(t, name+": behind a STATICCALL", s, 5)
	}
}

// P1302: what just looks, and what sends nothing, is done within static frames.
func TestStaticLooks(t *testing.T) {
	s := world(nil)
	s.SetSlot(other, num(1), num(44))
	s.SetCode(other, code(ask{gas: 5000, to: purse}.code(CALL), 1, SLOAD, ADD, purse, BALANCE, ADD, CALLVALUE, ADD, 0, MSTORE, 32, 0, RETURN))
	s.SetCode(self, code(ask{gas: 50000, to: other, outSize: 32}.code(STATICCALL), 0, MLOAD, giveWords(2)))
	s.Begin()
	before, _ := s.Root()
	gives(t, "a static frame that looks", s, 1045, 1)
	after, _ := s.Root()
	is(t, "the root", after, before)
}

// P1303: a static message with a value moves it; without one nothing changes but what is warm.
func TestStaticMessage(t *testing.T) {
	s := world(code(CALLVALUE, purse, BALANCE, POP, 3, SLOAD, POP, give()))
	before, _ := s.Root()
	out := evm.Call(s, someEnv, evm.Msg{Caller: caller, To: self, Gas: 100000, Static: true})
	after, _ := s.Root()
	is(t, "without value", fmt.Sprint(int(out.Err), words(t, out.Data), after == before), fmt.Sprint(0, []api.Word{{}}, true))
	is(t, "what is warm", fmt.Sprint(s.Warm(purse), s.WarmSlot(self, num(3))), "true true")
	out = evm.Call(s, someEnv, evm.Msg{Caller: caller, To: self, Value: num(7), Gas: 100000, Static: true})
	is(t, "with one", fmt.Sprint(int(out.Err), words(t, out.Data), s.Balance(self), s.Balance(caller)), fmt.Sprint(0, []api.Word{num(7)}, num(1007), num(993)))
}

// P1302: a creation as a static message: its first code may change nothing, but it is made.
func TestStaticCreation(t *testing.T) {
	for name, text := range changers() {
		s := world(nil)
		fails(t, name, evm.Call(s, someEnv, evm.Msg{Caller: caller, Create: true, Static: true, Gas: 100000, Data: text}), api.ErrStatic)
		is(t, name+": the nonce", s.Nonce(caller), 1)
	}
	s := world(nil)
	out := evm.Call(s, someEnv, evm.Msg{Caller: caller, Create: true, Static: true, Value: num(7), Gas: 100000, Data: code(2, 0, RETURN)})
	made := evm.Address(caller, 0)
	is(t, "one that changes nothing", fmt.Sprint(int(out.Err), out.Made == made, s.Code(made), s.Balance(made), s.Nonce(made)), fmt.Sprint(0, true, []byte{0, 0}, num(7), 1))
}
