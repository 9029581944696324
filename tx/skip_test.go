package tx_test

import (
	"fmt"
	"math"
	"testing"

	"conclave/api"
	"conclave/state"
	"conclave/tx"
	"conclave/word"
)

// busy: a state in the midst of a transaction: something is warm, and it has a refund, a log and a snapshot behind which slots were set.
func busy(more ...func(s *state.State)) *state.State {
	s := world(code(INVALID), more...)
	s.Begin()
	s.Warm(friend)
	s.WarmSlot(contract, num(2))
	s.AddRefund(5)
	s.Log(api.Log{Addr: friend, Topics: []api.Word{num(1)}, Data: []byte{2}})
	s.Snapshot()
	s.SetSlot(contract, num(1), num(99))
	s.SetSlot(nobody, num(1), num(98)) // gone at the next Begin
	return s
}

// untouched: is a busy state still as it was, its transaction too?
func untouched(t *testing.T, what string, s *state.State) {
	t.Helper()
	before := busy()
	is(t, what+": refund and logs", fmt.Sprint(s.Refund(), s.Logs(), int(s.Err())), fmt.Sprint(before.Refund(), before.Logs(), 0))
	is(t, what+": slots", fmt.Sprint(s.Slot(contract, num(1)), s.Original(contract, num(1)), s.Slot(nobody, num(1))), fmt.Sprint(num(99), num(11), num(98)))
	is(t, what+": the snapshot", int(s.Revert(0)), 0)
	is(t, what+": slots at the snapshot", fmt.Sprint(s.Slot(contract, num(1)), s.Slot(nobody, num(1))), fmt.Sprint(num(11), num(0)))
	for _, a := range []api.Addr{rich, poor, proposer, contract, nobody, {}, around.Origin} {
		is(t, fmt.Sprintf("%s: warm %x", what, a), s.Warm(a), false)
	}
	is(t, what+": what was warm", fmt.Sprint(s.Warm(friend), s.WarmSlot(contract, num(2)), s.WarmSlot(contract, num(1))), "true true false")
}

// skips: Apply skips it for that reason, and nothing changes.
func skips(t *testing.T, what string, s *state.State, x api.Tx, room uint64, why api.Errno) {
	t.Helper()
	before := held(s)
	received(t, what, tx.Apply(s, around, x, room), left(why))
	is(t, what+": the state", held(s), before)
}

// P1403, P1405: each reason to be skipped, alone; what is skipped changes nothing, it does not even begin.
func TestSkipped(t *testing.T) {
	unsigned := call(nil)
	unsigned.Sig[1]++
	rows := []struct {
		what string
		t    api.Tx
		room uint64
		why  api.Errno
	}{
		{"data that are too big", call(func(t *api.Tx) { t.Data, t.Gas = data(8193), 200000 }), 2000000, api.ErrBig},
		{"too little gas", call(func(t *api.Tx) { t.Gas = 20999 }), 2000000, api.ErrFee},
		{"too little gas to create", call(func(t *api.Tx) { t.Gas, t.Create = 52999, true }), 2000000, api.ErrFee},
		{"too much gas", call(func(t *api.Tx) { t.Gas = 2000001 }), math.MaxUint64, api.ErrFee},
		{"no signature", unsigned, 2000000, api.ErrSig},
		{"another chain", plainSign(8, seed(1), call(nil)), 2000000, api.ErrSig},
		{"too little room", call(nil), 99999, api.ErrFee},
		{"a nonce below", call(func(t *api.Tx) { t.Nonce = 4 }), 2000000, api.ErrNonce},
		{"a nonce above", call(func(t *api.Tx) { t.Nonce = 6 }), 2000000, api.ErrNonce},
		{"no funds", by(2, api.Tx{Gas: 21000, Price: 1}), 2000000, api.ErrFunds},
		{"too little funds", call(func(t *api.Tx) { t.Value = num(plenty) }), 2000000, api.ErrFunds},
	}
	for _, r := range rows {
		skips(t, r.what, world(nil), r.t, r.room, r.why)
		s := busy()
		skips(t, r.what, s, r.t, r.room, r.why)
		untouched(t, r.what, s)
	}
}

// P1403: a nil state, whatever comes with it.
func TestNilState(t *testing.T) {
	unsigned := call(nil)
	unsigned.Sig[1]++
	for _, x := range []api.Tx{{}, call(nil), unsigned, call(func(t *api.Tx) { t.Data = data(8193) }), call(func(t *api.Tx) { t.Nonce = 0 })} {
		for _, room := range []uint64{0, 2000000} {
			received(t, "nil", tx.Apply(nil, around, x, room), left(api.ErrNil))
		}
	}
}

// P1403: the first that fits, wherever reasons come together.
func TestSkippedOrder(t *testing.T) {
	const forged = 1 << 3 // done last, once it is signed
	errs := []api.Errno{api.ErrNil, api.ErrBig, api.ErrFee, api.ErrSig, api.ErrFee, api.ErrNonce, api.ErrFunds}
	for faults := range 1 << len(errs) {
		x := api.Tx{Nonce: 5, Price: 3, Gas: 200000, To: friend, Value: num(4)}
		room, want := uint64(2000000), api.OK
		s := world(nil)
		for i, f := range []func(){
			func() { s = nil },
			func() { x.Data = data(8193) },
			func() { x.Gas = 20000 },
			func() {},
			func() { room = x.Gas - 1 },
			func() { x.Nonce = 7 },
			func() { x.Value = top() },
		} {
			if faults>>i&1 == 1 {
				f()
				if want == api.OK {
					want = errs[i]
				}
			}
		}
		x = by(1, x)
		if faults&forged != 0 {
			x.Sig[63] ^= 1
		}
		r := tx.Apply(s, around, x, room)
		if want == api.OK {
			received(t, "no fault", r, api.Receipt{Used: 21000})
		} else {
			received(t, fmt.Sprintf("faults %07b", faults), r, left(want))
		}
	}
}

// P1403: gas at room and one above, whatever is used of it.
func TestRoom(t *testing.T) {
	for _, n := range []uint64{21000, 21001, 100000, 1999999, 2000000} {
		for room, why := range map[uint64]api.Errno{0: api.ErrFee, 20999: api.ErrFee, n - 1: api.ErrFee, n: api.OK, n + 1: api.OK, math.MaxUint64: api.OK} {
			x := by(1, api.Tx{Nonce: 5, Gas: n, To: friend})
			want := left(why)
			if why == api.OK {
				want = api.Receipt{Used: 21000}
			}
			received(t, fmt.Sprint("gas ", n, ", room ", room), tx.Apply(world(nil), around, x, room), want)
		}
	}
}

// P1403: nonces one below, one above, and 2^64 - 1, which no transaction may have; behind each the sender's is one more.
func TestNonces(t *testing.T) {
	for _, own := range []uint64{0, 1, 5, math.MaxUint64 - 2, math.MaxUint64 - 1, math.MaxUint64} {
		for _, n := range []uint64{0, own - 1, own, own + 1, own ^ 1<<32, math.MaxUint64 - 1, math.MaxUint64} {
			for _, create := range []bool{false, true} {
				s := world(nil, func(s *state.State) { s.SetNonce(rich, own) })
				x := by(1, api.Tx{Nonce: n, Gas: 60000, Create: create, To: friend, Value: num(1)})
				what := fmt.Sprint("nonce ", n, ", the sender's ", own, ", creating ", create)
				if n != own || n == math.MaxUint64 {
					skips(t, what, s, x, 2000000, api.ErrNonce)
					continue
				}
				r := tx.Apply(s, around, x, 2000000)
				is(t, what, fmt.Sprint(r.Skipped, int(r.Err), s.Nonce(rich)), fmt.Sprint(false, 0, own+1))
			}
		}
	}
}

// P1403: a balance of just Gas x Price + Value, one more and one less; sums beyond 256 bits are not enough of anything.
func TestFunds(t *testing.T) {
	rows := []struct {
		gas, price uint64
		value      api.Word
	}{
		{21000, 0, num(0)},
		{21000, 0, num(1)},
		{21000, 1, num(0)},
		{21001, 1, num(7)},
		{2000000, 3, num(1)},
		{2000000, math.MaxUint64, num(0)},
		{2000000, math.MaxUint64, num(12345)},
		{1000000, 1 << 50, pow(200)},
		{2000000, math.MaxUint64, pow(255)},
		{21000, 0, top()},
		{21000, 0, neg(5)},
		{21000, 1, neg(21001)},
	}
	for _, r := range rows {
		x := by(1, api.Tx{Nonce: 5, Gas: r.gas, Price: r.price, Value: r.value, To: friend})
		needed := word.Add(word.Mul(num(r.gas), num(r.price)), r.value)
		for more, balance := range map[int]api.Word{-1: word.Sub(needed, num(1)), 0: needed, 1: word.Add(needed, num(1))} {
			what := fmt.Sprint("gas ", r.gas, ", price ", r.price, ", value ", r.value, ", more ", more)
			s := world(nil, func(s *state.State) { s.SetBalance(rich, balance) })
			switch {
			case more == -1 && !word.Zero(needed), more == 1 && word.Zero(balance):
				skips(t, what, s, x, 2000000, api.ErrFunds)
			default:
				received(t, what, tx.Apply(s, around, x, 2000000), api.Receipt{Used: 21000})
				is(t, what+": sent", s.Balance(friend), r.value)
			}
		}
	}
}

// P1403: what is needed, beyond 256 bits: it is more than each balance, though it is little modulo 2^256.
func TestFundsBeyond(t *testing.T) {
	rows := []struct {
		gas, price uint64
		value      api.Word
	}{
		{21000, 1, top()},
		{21000, 1, neg(21000)},
		{21000, 1, neg(20999)},
		{2000000, math.MaxUint64, top()},
		{2000000, math.MaxUint64, neg(1 << 60)},
		{2000000, math.MaxUint64, word.Sub(num(0), word.Mul(num(2000000), num(math.MaxUint64)))},
	}
	for _, r := range rows {
		x := by(1, api.Tx{Nonce: 5, Gas: r.gas, Price: r.price, Value: r.value, To: friend})
		little := word.Add(word.Mul(num(r.gas), num(r.price)), r.value)
		for _, balance := range []api.Word{little, word.Add(little, num(1)), num(0), num(plenty), pow(255), r.value, top()} {
			s := world(nil, func(s *state.State) { s.SetBalance(rich, balance) })
			skips(t, fmt.Sprint("price ", r.price, ", value ", r.value, ", balance ", balance), s, x, 2000000, api.ErrFunds)
		}
	}
}
