package tx

import (
	"math"

	"conclave/api"
	"conclave/evm"
	"conclave/gas"
	"conclave/state"
	"conclave/word"
)

// Block: transactions' bytes, one behind the other.
func Block(s *state.State, env evm.Env, txs [][]byte) []api.Receipt {
	receipts := make([]api.Receipt, 0, len(txs))
	room := uint64(api.BlockGas)
	for _, b := range txs {
		r := applyBytes(s, env, b, room)
		room -= r.Used // which is never more: who asks for more is skipped
		receipts = append(receipts, r)
	}
	return receipts
}

func applyBytes(s *state.State, env evm.Env, b []byte, room uint64) api.Receipt {
	t, err := Decode(b)
	if err != api.OK {
		return skipped(err)
	}
	return Apply(s, env, t, room)
}

// Apply: carries a transaction out, if nothing is against it.
func Apply(s *state.State, env evm.Env, t api.Tx, room uint64) api.Receipt {
	if err := refuses(s, env.Chain, t, room); err != api.OK {
		return skipped(err)
	}
	receipt := carryOut(s, env, t)
	if err := s.Err(); err != api.OK {
		return skipped(err)
	}
	return receipt
}

func skipped(why api.Errno) api.Receipt { return api.Receipt{Skipped: true, Err: why} }

// refuses: why a transaction is not begun; OK, if it is.
func refuses(s *state.State, chain uint64, t api.Tx, room uint64) api.Errno {
	if s == nil {
		return api.ErrNil
	}
	if err := Check(chain, t); err != api.OK {
		return err
	}
	if t.Gas > room {
		return api.ErrFee
	}
	return refusesSender(s, t)
}

// refusesSender: the same, of what the sender has. A state that can't tell that is broken: its noughts are no reason.
func refusesSender(s *state.State, t api.Tx) api.Errno {
	from := Sender(t.From)
	nonce, balance := s.Nonce(from), s.Balance(from)
	switch {
	case s.Err() != api.OK:
		return s.Err()
	case t.Nonce != nonce || t.Nonce == math.MaxUint64:
		return api.ErrNonce
	case !affords(balance, t):
		return api.ErrFunds
	}
	return api.OK
}

// affords: is a balance enough for all that may be paid? No sum is made, since it may be beyond 256 bits.
func affords(balance api.Word, t api.Tx) bool {
	most := fee(t, t.Gas)
	return word.Cmp(most, balance) <= 0 && word.Cmp(t.Value, word.Sub(balance, most)) <= 0
}

// fee: of so much gas.
func fee(t api.Tx, n uint64) api.Word { return word.Mul(word.Of(n), word.Of(t.Price)) }

// carryOut: a transaction that nothing is against. The sender pays for all the gas ahead, so that no code can spend what it owes.
func carryOut(s *state.State, env evm.Env, t api.Tx) api.Receipt {
	from := Sender(t.From)
	env.Origin, env.Price = from, t.Price
	begin(s, env, t)
	s.SetBalance(from, word.Sub(s.Balance(from), fee(t, t.Gas)))
	if !t.Create { // else the message does it
		s.SetNonce(from, t.Nonce+1)
	}
	out := evm.Call(s, env, message(from, t))
	used := t.Gas - out.Left
	used -= gas.Refund(used, s.Refund())
	give(s, from, fee(t, t.Gas-used))
	give(s, env.Proposer, fee(t, used))
	return receipt(s, out, used)
}

// begin: what each transaction touches is warm from its beginning on.
func begin(s *state.State, env evm.Env, t api.Tx) {
	s.Begin()
	s.Warm(env.Origin)
	s.Warm(env.Proposer)
	if !t.Create {
		s.Warm(t.To)
	}
}

// message: what the machine carries out of a transaction.
func message(from api.Addr, t api.Tx) evm.Msg {
	m := evm.Msg{
		Caller: from,
		Value:  t.Value,
		Data:   t.Data,
		Gas:    t.Gas - gas.Intrinsic(t.Data, t.Create),
		Create: t.Create,
	}
	if !t.Create {
		m.To = t.To
	}
	return m
}

// give: more to an account's balance.
func give(s *state.State, to api.Addr, w api.Word) {
	s.SetBalance(to, word.Add(s.Balance(to), w))
}

// receipt: of a message that was carried out.
func receipt(s *state.State, out evm.Out, used uint64) api.Receipt {
	r := api.Receipt{Err: out.Err, Used: used, Made: out.Made, Out: out.Data}
	if out.Err == api.OK {
		r.Logs = s.Logs()
	}
	return r
}
