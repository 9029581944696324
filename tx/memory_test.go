package tx_test

import (
	"bytes"
	"fmt"
	"slices"
	"testing"

	"conclave/api"
	"conclave/evm"
	"conclave/state"
	"conclave/tx"
)

// roomy: the same bytes, with marked room behind them.
func roomy(b []byte) []byte {
	out := slices.Concat(b, bytes.Repeat([]byte{0xee}, 9))
	return out[:len(b)]
}

// whole: bytes with the room behind them.
func whole(b []byte) string { return fmt.Sprintf("%x", b[:cap(b)]) }

// spoil: writes over bytes, the room behind them too.
func spoil(b []byte) {
	b = b[:cap(b)]
	for i := range b {
		b[i] ^= 0xa5
	}
}

// Rule 4: what is handed in stays as it was, its spare room too.
func TestHandedIn(t *testing.T) {
	first := lays(gives(code(ORIGIN)))
	for _, x := range []api.Tx{
		call(func(t *api.Tx) { t.Data = roomy(data(40)) }),
		call(func(t *api.Tx) { t.Data, t.Create = roomy(first), true }),
		call(func(t *api.Tx) { t.Data = roomy(data(8193)) }),
		call(func(t *api.Tx) { t.Data, t.Nonce = roomy(data(5)), 0 }),
	} {
		key, was := roomy(seed(1)), whole(x.Data)
		keyWas := whole(key)
		tx.Encode(x)
		tx.Bytes(7, x)
		tx.Check(7, x)
		tx.Sign(7, key, x)
		tx.Sign(7, key[:31], x)
		s := world(code(0, CALLDATALOAD, 1, SSTORE, 64, 0, LOG0))
		tx.Apply(s, around, x, 2000000)
		is(t, "data", whole(x.Data), was)
		is(t, "the seed", whole(key), keyWas)
		b := roomy(plainEncode(x))
		was = whole(b)
		tx.Decode(b)
		tx.Decode(b[:len(b)-1])
		is(t, "bytes", whole(b), was)
		txs := [][]byte{b, roomy([]byte{5}), b, nil, {1}}
		wasTxs := fmt.Sprint(txs)
		tx.Block(world(nil), around, txs[:3])
		is(t, "all bytes", fmt.Sprint(txs, whole(b)), fmt.Sprint(wasTxs, was))
	}
}

// Rule 4: nothing that is handed in is kept, and what is handed out is new memory.
func TestHandedOut(t *testing.T) {
	x := call(func(t *api.Tx) { t.Data = data(60) })
	text, b := seen(x), plainEncode(x)

	enc, _ := tx.Encode(x)
	signed := tx.Bytes(7, x)
	spoil(enc)
	spoil(signed)
	is(t, "Encode and Bytes share nothing", seen(x), text)

	y, _ := tx.Sign(7, seed(1), x)
	spoil(y.Data)
	is(t, "Sign shares nothing", seen(x), text)
	y, _ = tx.Sign(7, seed(1), x)
	spoil(x.Data)
	is(t, "Sign keeps nothing", seen(y), text)

	raw := slices.Clone(b)
	y, _ = tx.Decode(raw)
	spoil(raw)
	is(t, "Decode keeps nothing", seen(y), text)
	spoil(raw)
	z, _ := tx.Decode(raw)
	spoil(y.Data)
	is(t, "Decode shares nothing", fmt.Sprint(bytes.Equal(raw, b), seen(z)), fmt.Sprint(true, text))
}

// Rule 4: receipts are nobody else's: neither the state nor another receipt sees what is written into them.
func TestReceiptsAreNew(t *testing.T) {
	laid := code(7, 0, MSTORE, 2, 1, 32, 0, LOG2, 2, 1, 32, 0, LOG2, 64, 0, RETURN)
	spoilAll := func(r api.Receipt) {
		spoil(r.Out)
		logs := r.Logs[:cap(r.Logs)]
		for i := range logs {
			spoil(logs[i].Data)
			topics := logs[i].Topics[:cap(logs[i].Topics)]
			for k := range topics {
				topics[k][0] ^= 9
			}
			logs[i].Addr[0]++
		}
	}
	s := world(laid)
	r := applied(s, call(nil))
	text, before := told(r), held(s)
	is(t, "so much", fmt.Sprint(len(r.Out), len(r.Logs), len(r.Logs[1].Topics)), "64 2 2")
	spoil(r.Logs[0].Data)
	spoil(r.Out)
	is(t, "its parts share nothing", fmt.Sprintf("%x", r.Logs[1].Data), fmt.Sprintf("%064x", 7))
	spoil(r.Logs[0].Data)
	spoil(r.Out)
	spoilAll(r)
	is(t, "the state", held(s), before)

	l := tx.Block(world(laid), around, encoded(call(nil), call(func(t *api.Tx) { t.Nonce = 6 })))
	spoilAll(l[0])
	is(t, "another receipt", told(l[1]), text)
	is(t, "the code", fmt.Sprintf("%x", s.Code(contract)), fmt.Sprintf("%x", laid))
}

// Rule 4: a contract's code is none of the data that made it, and neither is what a first code gave back.
func TestCodeIsNew(t *testing.T) {
	laid := gives(code(ORIGIN))
	x := call(func(t *api.Tx) { t.Create, t.Data = true, lays(laid) })
	s := world(nil)
	r := applied(s, x)
	spoil(x.Data)
	is(t, "its code", fmt.Sprintf("%x", s.Code(r.Made)), fmt.Sprintf("%x", laid))
	raw := encoded(by(1, api.Tx{Nonce: 6, Gas: 100000, Create: true, Data: lays(laid)}))
	l := tx.Block(s, around, raw)
	spoil(raw[0])
	is(t, "its code", fmt.Sprintf("%x", s.Code(l[0].Made)), fmt.Sprintf("%x", laid))
	is(t, "where", l[0].Made, evm.Address(rich, 6))
}

// Rule 5: the same calls have the same answers, and two states share nothing.
func TestAgain(t *testing.T) {
	txs := encoded(call(nil), call(func(t *api.Tx) { t.Nonce, t.Create, t.Data = 6, true, lays(code(INVALID)) }), call(nil))
	laid := code(0, 1, SSTORE, 9, 0, MSTORE, 32, 0, LOG0, 32, 0, RETURN)
	states := []*state.State{world(laid), world(laid), world(laid)}
	untouched := held(states[2])
	want := fmt.Sprint(tx.Block(states[0], around, txs), held(states[0]))
	is(t, "again", fmt.Sprint(tx.Block(states[1], around, txs), held(states[1])), want)
	is(t, "another state", held(states[2]), untouched)
}
