package tx_test

import (
	"fmt"
	"math"
	"testing"

	"conclave/api"
	"conclave/state"
	"conclave/tx"
)

// encoded: of transactions.
func encoded(txs ...api.Tx) [][]byte {
	var out [][]byte
	for _, x := range txs {
		out = append(out, plainEncode(x))
	}
	return out
}

// blocked: Block gives these receipts.
func blocked(t *testing.T, what string, s *state.State, txs [][]byte, want ...api.Receipt) {
	t.Helper()
	l := tx.Block(s, around, txs)
	is(t, what+": receipts", len(l), len(want))
	for i := range min(len(l), len(want)) {
		received(t, fmt.Sprint(what, ": ", i), l[i], want[i])
	}
}

// P1404: nothing, and bytes that are no transactions.
func TestBlockOfNothing(t *testing.T) {
	for _, s := range []*state.State{nil, world(nil)} {
		blocked(t, "nil", s, nil)
		blocked(t, "no bytes", s, [][]byte{})
		blocked(t, "wrong bytes", s,
			[][]byte{nil, {}, {1}, {0x81, 5}, {0xc0}, make([]byte, 65537), plainEncode(change(some(), func(t *api.Tx) { t.Data = data(8193) }))},
			left(api.ErrEnd), left(api.ErrEnd), left(api.ErrRlp), left(api.ErrRlp), left(api.ErrRlp), left(api.ErrBig), left(api.ErrBig))
	}
	s := busy()
	before := held(s)
	tx.Block(s, around, [][]byte{nil, {1}, plainEncode(call(func(t *api.Tx) { t.Nonce = 1 }))})
	is(t, "the state", held(s), before)
	untouched(t, "wrong bytes", s)
}

// P1404: a nil state: each is skipped with ErrNil, but for what can't be read.
func TestBlockOfNilState(t *testing.T) {
	forged := call(nil)
	forged.Sig[3]++
	blocked(t, "a nil state", nil, append(encoded(call(nil), forged, api.Tx{}), []byte{5}), left(api.ErrNil), left(api.ErrNil), left(api.ErrNil), left(api.ErrRlp))
}

// P1404: one behind the other: each finds what those ahead of it left.
func TestBlockInOrder(t *testing.T) {
	pay := func(c byte, nonce uint64, to api.Addr, value uint64) api.Tx {
		return by(c, api.Tx{Nonce: nonce, Gas: 21000, Price: 1, To: to, Value: num(value)})
	}
	done := api.Receipt{Used: 21000}
	s := world(nil)
	blocked(t, "in order", s, append(encoded(
		pay(2, 0, friend, 1),     // poor has nothing yet
		pay(1, 5, poor, 50000),   // now it has
		pay(2, 0, friend, 1),     //
		pay(1, 5, poor, 50000),   // the same again
		pay(1, 7, friend, 1),     // one left out
		pay(1, 6, friend, 2),     //
		pay(1, 7, friend, 3),     //
		pay(2, 1, friend, 8000),  // too much now
		pay(2, 1, friend, 7999),  // just what it has
		pay(2, 2, friend, 0),     // nothing is left for the fee
		pay(3, 0, friend, 0),     // who never had anything
		pay(1, 8, sender(3), 21), //
	), []byte("no transaction")),
		left(api.ErrFunds), done, done, left(api.ErrNonce), left(api.ErrNonce), done, done, left(api.ErrFunds), done, left(api.ErrFunds), left(api.ErrFunds), done, left(api.ErrRlp))
	is(t, "behind them", has(s, rich, poor, friend, proposer, sender(3)), fmt.Sprintf("9:%d 2:0 0:8005 0:126000 0:21 ", plenty-50000-2-3-21-4*21000))
}

// P1404: room goes down by what was used, and by nothing for what was skipped.
func TestBlockRoom(t *testing.T) {
	pay := func(nonce, gas uint64) api.Tx { return by(1, api.Tx{Nonce: nonce, Gas: gas, To: friend}) }
	done := api.Receipt{Used: 21000}
	blocked(t, "payments", world(nil), encoded(
		pay(5, 2000000),
		pay(6, 2000000),
		pay(6, 1979001),
		pay(6, 1979000),
		pay(9, 1958000),
		pay(7, 1958000),
		pay(8, 2000001),
		pay(8, 1937000),
	), done, left(api.ErrFee), left(api.ErrFee), done, left(api.ErrNonce), done, left(api.ErrFee), done)

	burn := func(nonce, gas uint64) api.Tx { return by(1, api.Tx{Nonce: nonce, Gas: gas, To: contract}) }
	burnt := func(gas uint64) api.Receipt { return api.Receipt{Err: api.ErrOp, Used: gas} }
	blocked(t, "all is used", world(code(INVALID)), encoded(
		burn(5, 1000000),
		burn(6, 1000001),
		burn(6, 979001),
		pay(7, 20999),
		pay(7, 21000),
		burn(7, 20999),
		pay(8, 21000),
	), burnt(1000000), left(api.ErrFee), burnt(979001), left(api.ErrFee), left(api.ErrFee), left(api.ErrFee), left(api.ErrFee))
	blocked(t, "all is used at once", world(code(INVALID)), encoded(burn(5, 2000000), pay(6, 21000)), burnt(2000000), left(api.ErrFee))
	blocked(t, "all is used, to the last", world(code(INVALID)), encoded(burn(5, 1979000), pay(6, 21000), pay(7, 21000)), burnt(1979000), done, left(api.ErrFee))

	cleared := api.Receipt{Used: 26005 - 4800} // what was given back is room again
	blocked(t, "a refund", world(code(0, 1, SSTORE)), encoded(
		burn(5, 1000000),
		pay(6, 2000000-26005+4801),
		pay(6, 2000000-26005+4800),
	), cleared, left(api.ErrFee), done)
}

// P1404: a block has no bound of its own; numbers of receipts are those of transactions.
func TestBlockOfMany(t *testing.T) {
	var txs []api.Tx
	var want []api.Receipt
	for i := range 100 {
		txs = append(txs, by(1, api.Tx{Nonce: 5 + uint64(i), Gas: 21000, To: friend, Value: num(1)}))
		want = append(want, api.Receipt{Used: 21000})
		if i >= 95 { // 95 times 21000 are 1995000
			want[i] = left(api.ErrFee)
		}
	}
	s := world(nil)
	blocked(t, "many", s, encoded(txs...), want...)
	is(t, "behind them", has(s, friend), "0:95 ")
}

// P1404: each transaction begins anew: nothing is warm by the one ahead, and slots are first what that one left.
func TestBlockBegins(t *testing.T) {
	set := func(nonce uint64, slot, value byte) api.Tx {
		d := make([]byte, 64)
		d[31], d[63] = slot, value
		return by(1, api.Tx{Nonce: nonce, Gas: 100000, To: contract, Data: d})
	}
	steps := uint64(21000 + 62*4 + 2*16 + 3 + 3 + 2 + 3) // but for SSTORE; a value of 0 is 12 cheaper
	used := func(n uint64) api.Receipt { return api.Receipt{Used: steps + n} }
	s := world(code(32, CALLDATALOAD, 0, CALLDATALOAD, SSTORE))
	blocked(t, "slots", s, encoded(set(5, 1, 9), set(6, 1, 11), set(7, 3, 1), set(8, 3, 1), set(9, 3, 0), set(10, 3, 0)),
		used(5000), used(5000), used(22100), used(2200), used(5000-12-4800), used(2200-12))
	is(t, "slots", fmt.Sprint(s.Slot(contract, num(1)), s.Slot(contract, num(3))), fmt.Sprint(num(11), num(0)))
}

// P1403, P1404: nonces at their end.
func TestBlockNonces(t *testing.T) {
	s := world(nil, func(s *state.State) { s.SetNonce(rich, math.MaxUint64-2) })
	pay := func(nonce uint64, create bool) api.Tx {
		return by(1, api.Tx{Nonce: nonce, Gas: 60000, To: friend, Create: create})
	}
	l := tx.Block(s, around, encoded(pay(math.MaxUint64-2, true), pay(math.MaxUint64-1, false), pay(math.MaxUint64, false), pay(0, false)))
	is(t, "receipts", fmt.Sprint(int(l[0].Err), int(l[1].Err), told(l[2]) == told(left(api.ErrNonce)), told(l[3]) == told(left(api.ErrNonce)), s.Nonce(rich)), fmt.Sprint(0, 0, true, true, uint64(math.MaxUint64)))
}
