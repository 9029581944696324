package evm

import (
	"math"

	"conclave/api"
	"conclave/state"
	"conclave/word"
)

const (
	codeGas   = 200  // for each byte of a code that is laid
	refusedBy = 0xef // a code that begins so is not laid
)

// machine: what all messages within one have in common.
type machine struct {
	state *state.State
	env   Env
	ops   [256]opcode
}

func newMachine(s *state.State, env Env) *machine {
	return &machine{state: s, env: env, ops: opcodes()}
}

// send: a message that no frame sends.
func (m *machine) send(msg Msg) Out {
	if msg.Create {
		return m.create(msg, func(nonce uint64) api.Addr { return Address(msg.Caller, nonce) })
	}
	return m.call(msg)
}

// call: a message that runs To's code.
func (m *machine) call(msg Msg) Out {
	if err := m.refuses(msg); err != api.OK {
		return Out{Err: err, Left: msg.Gas}
	}
	return m.whole(func() Out {
		m.move(msg.Caller, msg.To, msg.Value)
		return m.run(msg, m.state.Code(msg.To))
	})
}

// delegate: a message that runs another account's code, and sends no value: the message's is one that was sent already.
func (m *machine) delegate(msg Msg, codeOf api.Addr) Out {
	if tooDeep(msg) {
		return Out{Err: api.ErrDeep, Left: msg.Gas}
	}
	return m.whole(func() Out { return m.run(msg, m.state.Code(codeOf)) })
}

// create: a message that makes a contract, whose address hangs on the nonce that the caller has.
func (m *machine) create(msg Msg, address func(nonce uint64) api.Addr) Out {
	if err := m.refuses(msg); err != api.OK {
		return Out{Err: err, Left: msg.Gas}
	}
	nonce := m.state.Nonce(msg.Caller)
	if nonce == math.MaxUint64 {
		return Out{Err: api.ErrNonce, Left: msg.Gas}
	}
	m.state.SetNonce(msg.Caller, nonce+1)
	made := address(nonce)
	m.state.Warm(made)
	if m.stands(made) {
		return Out{Err: api.ErrExists}
	}
	return m.whole(func() Out { return m.build(msg, made) })
}

func tooDeep(msg Msg) bool { return msg.Depth > api.MaxCalls }

// refuses: why a message that sends its value is not begun; OK, if it is.
func (m *machine) refuses(msg Msg) api.Errno {
	switch {
	case tooDeep(msg):
		return api.ErrDeep
	case word.Cmp(msg.Value, m.state.Balance(msg.Caller)) > 0:
		return api.ErrFunds
	}
	return api.OK
}

// stands: is there an account where a contract would be made?
func (m *machine) stands(a api.Addr) bool {
	return m.state.Nonce(a) != 0 || len(m.state.Code(a)) > 0
}

// whole: what is done stays, if it ends well, else nothing of it.
func (m *machine) whole(do func() Out) Out {
	back := m.state.Snapshot()
	out := do()
	if out.Err != api.OK {
		m.state.Revert(back)
	}
	return out
}

// move: a value that the first account has. Both may be one: so the second balance is asked behind the first change.
func (m *machine) move(from, to api.Addr, value api.Word) {
	if word.Zero(value) {
		return
	}
	m.state.SetBalance(from, word.Sub(m.state.Balance(from), value))
	m.state.SetBalance(to, word.Add(m.state.Balance(to), value))
}

// build: the contract is there as its first code runs.
func (m *machine) build(msg Msg, made api.Addr) Out {
	m.state.SetNonce(made, 1)
	m.move(msg.Caller, made, msg.Value)
	code := msg.Data
	msg.To, msg.Data = made, nil
	out := m.run(msg, code)
	if out.Err != api.OK {
		return out
	}
	return m.lay(made, out)
}

// lay: what a first code that ended well has given is the contract's code, if that may be and can be paid.
func (m *machine) lay(made api.Addr, out Out) Out {
	code := out.Data
	cost := codeGas * uint64(len(code))
	switch {
	case len(code) > api.MaxCode, len(code) > 0 && code[0] == refusedBy:
		return Out{Err: api.ErrCode}
	case out.Left < cost:
		return Out{Err: api.ErrGas}
	}
	m.state.SetCode(made, code)
	return Out{Left: out.Left - cost, Made: made}
}
