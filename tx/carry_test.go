package tx_test

import (
	"bytes"
	"fmt"
	"slices"
	"testing"

	"conclave/api"
	"conclave/evm"
	"conclave/state"
	"conclave/tx"
	"conclave/word"
)

// applied: the receipt of a transaction that has all the room, and the state behind it.
func applied(s *state.State, x api.Tx) api.Receipt { return tx.Apply(s, around, x, 2000000) }

// P1403: sender, To and who proposes are warm, and nothing else; what was warm ahead is not.
func TestWarm(t *testing.T) {
	made := evm.Address(rich, 5)
	rows := []struct {
		what string
		t    api.Tx
		env  evm.Env
		warm []api.Addr
	}{
		{"a payment", by(1, api.Tx{Nonce: 5, Gas: 60000, To: friend}), around, []api.Addr{rich, friend, proposer}},
		{"a call", call(nil), around, []api.Addr{rich, contract, proposer}},
		{"one to oneself", by(1, api.Tx{Nonce: 5, Gas: 60000, To: rich}), around, []api.Addr{rich, proposer}},
		{"a creation", by(1, api.Tx{Nonce: 5, Gas: 60000, To: friend, Create: true}), around, []api.Addr{rich, made, proposer}},
		{"a creation that fails", by(1, api.Tx{Nonce: 5, Gas: 60000, Create: true, Data: code(INVALID)}), around, []api.Addr{rich, made, proposer}},
		{"another who proposes", by(1, api.Tx{Nonce: 5, Gas: 60000, To: friend}), evm.Env{Chain: 7, Proposer: nobody}, []api.Addr{rich, friend, nobody}},
		{"the zero address", by(1, api.Tx{Nonce: 5, Gas: 60000}), evm.Env{Chain: 7}, []api.Addr{rich, {}}},
	}
	for _, r := range rows {
		s := busy()
		for _, a := range []api.Addr{friend, poor, nobody, {}} {
			s.Warm(a)
		}
		is(t, r.what, tx.Apply(s, r.env, r.t, 2000000).Skipped, false)
		for _, a := range []api.Addr{rich, poor, friend, contract, nobody, proposer, made, {}, around.Origin} {
			is(t, fmt.Sprintf("%s: warm %x", r.what, a), s.Warm(a), slices.Contains(r.warm, a))
		}
		is(t, r.what+": slots", fmt.Sprint(s.WarmSlot(contract, num(1)), s.WarmSlot(contract, num(2))), "false false")
	}
}

// P1403: the same, as the code pays for it: 100 for each account that is warm at the beginning.
func TestWarmPaid(t *testing.T) {
	for a, cost := range map[api.Addr]uint64{rich: 100, contract: 100, proposer: 100, friend: 2600, around.Origin: 2600, {}: 2600} {
		r := applied(world(code(a, BALANCE)), call(nil))
		received(t, fmt.Sprintf("BALANCE of %x", a), r, api.Receipt{Used: 21000 + 3 + cost})
	}
	friendly := by(1, api.Tx{Nonce: 5, Gas: 100000, To: friend, Create: true, Data: code(friend, BALANCE)})
	made := evm.Address(rich, 5)
	received(t, "To of one that creates", applied(world(nil), friendly), api.Receipt{Used: plainIntrinsic(friendly) + 3 + 2600, Made: made})
}

// P1403: a transaction begins: what was in a state of refunds, logs, snapshots and slots of empty accounts is gone, and slots are first what they are now.
func TestBegins(t *testing.T) {
	s := busy()
	for range 5 {
		s.Snapshot()
	}
	r := applied(s, by(1, api.Tx{Nonce: 5, Price: 1, Gas: 60000, To: friend}))
	received(t, "Apply", r, api.Receipt{Used: 21000})
	is(t, "refund and logs", fmt.Sprint(s.Refund(), len(s.Logs())), "0 0")
	is(t, "the last snapshot", int(s.Revert(5)), int(api.ErrArg))
	is(t, "slots", fmt.Sprint(s.Original(contract, num(1)), s.Slot(nobody, num(1))), fmt.Sprint(num(99), num(0)))
}

// P1403: what the code sees around it: Origin and Price are the transaction's, whatever stands in Env; the sender has paid for all the gas, and who proposes has nothing yet.
func TestSeen(t *testing.T) {
	what := []struct {
		name string
		code []byte
		want api.Word
	}{
		{"ORIGIN", code(ORIGIN), wordOf(rich)},
		{"CALLER", code(CALLER), wordOf(rich)},
		{"GASPRICE", code(GASPRICE), num(3)},
		{"ADDRESS", code(ADDRESS), wordOf(contract)},
		{"CALLVALUE", code(CALLVALUE), num(4)},
		{"CALLDATASIZE", code(CALLDATASIZE), num(3)},
		{"CALLDATALOAD", code(0, CALLDATALOAD), word.Shl(num(232), num(0x010200))},
		{"COINBASE", code(COINBASE), wordOf(proposer)},
		{"TIMESTAMP", code(TIMESTAMP), num(12)},
		{"NUMBER", code(NUMBER), num(11)},
		{"CHAINID", code(CHAINID), num(7)},
		{"the sender's balance", code(rich, BALANCE), num(plenty - 300000 - 4)},
		{"the own balance", code(contract, BALANCE), num(54)},
		{"the balance of who proposes", code(proposer, BALANCE), num(0)},
		{"a slot", code(1, SLOAD), num(11)},
		{"GAS", code(GAS), num(100000 - 21036 - 2)},
	}
	for _, w := range what {
		r := applied(world(gives(w.code)), call(func(t *api.Tx) { t.Data = []byte{1, 2, 0} }))
		is(t, w.name, fmt.Sprint(int(r.Err), wordOf(r.Out)), fmt.Sprint(0, w.want))
	}
	r := applied(world(nil), call(func(t *api.Tx) {
		t.Create, t.Data = true, code(code(ORIGIN, 0, MSTORE, GASPRICE, 32, MSTORE, CALLDATASIZE, 64, MSTORE, ADDRESS, 96, MSTORE), 128, 0, REVERT)
	}))
	var words []api.Word
	for b := range slices.Chunk(r.Out, 32) {
		words = append(words, wordOf(b))
	}
	is(t, "of a creation", fmt.Sprint(int(r.Err), words), fmt.Sprint(int(api.ErrRevert), []api.Word{wordOf(rich), num(3), num(0), wordOf(evm.Address(rich, 5))}))
}

// wordOf: of an address, or of 32 bytes.
func wordOf(x any) api.Word {
	var b []byte
	switch x := x.(type) {
	case api.Addr:
		b = x[:]
	case []byte:
		b = x
	}
	w, _ := word.Read(b)
	return w
}

// P1403: calls to an account without code, with code, to the sender itself, to who proposes, by who proposes.
func TestWhom(t *testing.T) {
	proposing := evm.Env{Chain: 7, Proposer: rich}
	rows := []struct {
		what string
		env  evm.Env
		to   api.Addr
		want string // of rich, to, proposer
	}{
		{"to one that is not there", around, nobody, fmt.Sprintf("6:%d 0:4 0:63000 ", plenty-63004)},
		{"to the zero address", around, api.Addr{}, fmt.Sprintf("6:%d 0:4 0:63000 ", plenty-63004)},
		{"to a contract", around, contract, fmt.Sprintf("6:%d 1:54 0:63000 ", plenty-63004)},
		{"to oneself", around, rich, fmt.Sprintf("6:%d 6:%d 0:63000 ", plenty-63000, plenty-63000)},
		{"to who proposes", around, proposer, fmt.Sprintf("6:%d 0:63004 0:63004 ", plenty-63004)},
		{"by who proposes", proposing, friend, fmt.Sprintf("6:%d 0:4 6:%d ", plenty-4, plenty-4)},
		{"by who proposes, to oneself", proposing, rich, fmt.Sprintf("6:%d 6:%d 6:%d ", plenty, plenty, plenty)},
	}
	for _, r := range rows {
		s := world(nil)
		x := call(func(t *api.Tx) { t.To = r.to })
		received(t, r.what, tx.Apply(s, r.env, x, 2000000), api.Receipt{Used: 21000})
		is(t, r.what, has(s, rich, r.to, r.env.Proposer), r.want)
		is(t, r.what+": all balances", total(t, s), num(plenty+50))
	}
}

// P1403: a call that runs code: what it gives and what it costs; a slot stays changed.
func TestCall(t *testing.T) {
	laid := code(code(7, 3, SSTORE), gives(code(9)))
	s := world(laid)
	x := call(func(t *api.Tx) { t.Data = []byte{0, 1} })
	want := api.Receipt{Used: 21020 + 22106 + 3 + 2 + 6 + 3 + 2, Out: word.Bytes(num(9))}
	received(t, "a call", applied(s, x), want)
	is(t, "the slot", s.Slot(contract, num(3)), num(7))
	is(t, "behind it", has(s, rich, contract, proposer), fmt.Sprintf("6:%d 1:54 0:%d ", plenty-3*want.Used-4, 3*want.Used))
}

// P1403: calls that revert and fail: just nonce and fee stay, and what was given by REVERT.
func TestCallsThatEndBadly(t *testing.T) {
	head := code(7, 3, SSTORE, 0, 1, SSTORE, 0, 0, LOG0)
	cost := uint64(3 + 3 + 22100 + 2 + 3 + 5000 + 2 + 2 + 375)
	rows := []struct {
		what string
		code []byte
		want api.Receipt
	}{
		{"REVERT of nothing", code(head, 0, 0, REVERT), api.Receipt{Err: api.ErrRevert, Used: 21000 + cost + 4}},
		{"REVERT of something", code(head, 8, 0, MSTORE, 31, 1, REVERT), api.Receipt{Err: api.ErrRevert, Used: 21000 + cost + 3 + 2 + 6 + 3 + 3, Out: append(make([]byte, 30), 8)}},
		{"INVALID", code(head, INVALID), api.Receipt{Err: api.ErrOp, Used: 100000}},
		{"no opcode", code(head, []byte{0x0c}), api.Receipt{Err: api.ErrOp, Used: 100000}},
		{"a stack without words", code(head, POP), api.Receipt{Err: api.ErrStack, Used: 100000}},
		{"a jump to no jumpdest", code(head, 0, JUMP), api.Receipt{Err: api.ErrJump, Used: 100000}},
		{"a loop", code(JUMPDEST, 0, JUMP), api.Receipt{Err: api.ErrGas, Used: 100000}},
		{"too much memory", code(head, 0, 65536, MSTORE), api.Receipt{Err: api.ErrGas, Used: 100000}},
	}
	for _, r := range rows {
		s := world(r.code)
		received(t, r.what, applied(s, call(nil)), r.want)
		is(t, r.what+": slots", fmt.Sprint(s.Slot(contract, num(3)), s.Slot(contract, num(1))), fmt.Sprint(num(0), num(11)))
		is(t, r.what+": behind it", has(s, rich, contract, proposer), fmt.Sprintf("6:%d 1:50 0:%d ", plenty-3*r.want.Used, 3*r.want.Used))
		is(t, r.what+": refund and logs", fmt.Sprint(s.Refund(), len(s.Logs())), "0 0")
	}
}

// P1403: a creation that ends well.
func TestCreation(t *testing.T) {
	laid := code(7, 3, SSTORE)
	x := call(func(t *api.Tx) { t.Create, t.Data = true, lays(laid) })
	made := evm.Address(rich, 5)
	s := world(nil)
	r := applied(s, x)
	steps := uint64(1 + 3 + 3 + 2 + 3 + 3 + 3 + 3 + 2) // of lays, with a word that is copied and a word of memory
	received(t, "a creation", r, api.Receipt{Used: plainIntrinsic(x) + steps + 200*uint64(len(laid)), Made: made})
	is(t, "its code", fmt.Sprintf("%x", s.Code(made)), fmt.Sprintf("%x", laid))
	is(t, "behind it", has(s, rich, made, proposer, contract), fmt.Sprintf("6:%d 1:4 0:%d 1:50 ", plenty-4-3*r.Used, 3*r.Used))
	r = applied(s, by(1, api.Tx{Nonce: 6, Gas: 60000, To: made}))
	is(t, "a call of it", fmt.Sprint(int(r.Err), r.Used, s.Slot(made, num(3))), fmt.Sprint(0, 21000+22106, num(7)))
	r = applied(s, by(1, api.Tx{Nonce: 7, Gas: 53000, Create: true}))
	received(t, "one without code", r, api.Receipt{Used: 53000, Made: evm.Address(rich, 7)})
	is(t, "nonces", fmt.Sprint(s.Nonce(rich), s.Nonce(r.Made)), "8 1")
}

// P1403: creations that revert and fail: the sender's nonce has gone up by 1 nevertheless, and nothing is made.
func TestCreationsThatEndBadly(t *testing.T) {
	made := evm.Address(rich, 5)
	rows := []struct {
		what  string
		first []byte
		want  api.Receipt
		more  func(s *state.State)
	}{
		{"REVERT", code(7, 3, SSTORE, 8, 0, MSTORE, 31, 1, REVERT), api.Receipt{Err: api.ErrRevert, Used: 53000 + 22106 + 17, Out: append(make([]byte, 30), 8)}, nil},
		{"INVALID", code(7, 3, SSTORE, INVALID), api.Receipt{Err: api.ErrOp, Used: 100000}, nil},
		{"a code that may not be laid", lays([]byte{0xef}), api.Receipt{Err: api.ErrCode, Used: 100000}, nil},
		{"a code that is too dear", lays(make([]byte, 250)), api.Receipt{Err: api.ErrGas, Used: 100000}, nil},
		{"one that is there", nil, api.Receipt{Err: api.ErrExists, Used: 100000}, func(s *state.State) { s.SetNonce(made, 1) }},
		{"one that has code", nil, api.Receipt{Err: api.ErrExists, Used: 100000}, func(s *state.State) { s.SetCode(made, []byte{0}) }},
	}
	for _, r := range rows {
		x := call(func(t *api.Tx) { t.Create, t.Data = true, r.first })
		if r.want.Err == api.ErrRevert {
			r.want.Used += plainIntrinsic(x) - 53000
		}
		s := world(nil)
		if r.more != nil {
			s = world(nil, r.more)
		}
		before := fmt.Sprint(s.Nonce(made), s.Code(made))
		received(t, r.what, applied(s, x), r.want)
		is(t, r.what+": what is there", fmt.Sprint(s.Nonce(made), s.Code(made), s.Slot(made, num(3))), before+fmt.Sprint(" ", num(0)))
		is(t, r.what+": behind it", has(s, rich, proposer), fmt.Sprintf("6:%d 0:%d ", plenty-3*r.want.Used, 3*r.want.Used))
		is(t, r.what+": balance", s.Balance(made), num(0))
	}
}

// P1403: refunds below gas.Refund's bound, at it, and above: what is given back is paid neither by the sender nor to who proposes.
func TestRefunds(t *testing.T) {
	one, two := code(0, 1, SSTORE), code(0, 1, SSTORE, 0, 2, SSTORE) // 5005 each, 4800 back
	filled := func(n int) []byte { return append(two, bytes.Repeat(code(JUMPDEST), n)...) }
	rows := []struct {
		what        string
		code        []byte
		least, used uint64
	}{
		{"below the bound", one, 26005, 26005 - 4800},
		{"far above the bound", two, 31010, 31010 - 6202},
		{"one above the bound", filled(47999 - 31010), 47999, 47999 - 9599},
		{"at the bound", filled(48000 - 31010), 48000, 48000 - 9600},
		{"at the bound, rounded", filled(48004 - 31010), 48004, 48004 - 9600},
		{"one below the bound", filled(48005 - 31010), 48005, 48005 - 9600},
		{"there and back", code(0, 1, SSTORE, 11, 1, SSTORE), 21000 + 5005 + 6 + 2301, 21000 + 5005 + 106 - 2800}, // SSTORE wants 2301
		{"none", code(12, 1, SSTORE), 21000 + 5006, 21000 + 5006},
	}
	for _, r := range rows {
		s := world(r.code)
		received(t, r.what, applied(s, call(nil)), api.Receipt{Used: r.used})
		is(t, r.what, has(s, rich, proposer), fmt.Sprintf("6:%d 0:%d ", plenty-4-3*r.used, 3*r.used))
		least := call(func(t *api.Tx) { t.Gas = r.least }) // the refund comes behind all steps: there must be gas for them
		received(t, r.what+", just enough gas", applied(world(r.code), least), api.Receipt{Used: r.used})
		less := call(func(t *api.Tx) { t.Gas = r.least - 1 })
		received(t, r.what+", one too little", applied(world(r.code), less), api.Receipt{Err: api.ErrGas, Used: r.least - 1})
	}
}

// P1403: a price of 0: nobody pays, and who proposes does not come to be.
func TestFree(t *testing.T) {
	s := world(gives(code(GASPRICE)))
	r := applied(s, call(func(t *api.Tx) { t.Price = 0 }))
	is(t, "free", fmt.Sprint(int(r.Err), r.Used, wordOf(r.Out)), fmt.Sprint(0, 21000+2+2+6+3+2, num(0)))
	is(t, "behind it", has(s, rich, contract, proposer)+fmt.Sprint(s.Exists(proposer)), fmt.Sprintf("6:%d 1:54 0:0 false", plenty-4))
	poorest := by(2, api.Tx{Gas: 21000, To: friend})
	received(t, "one that has nothing", applied(s, poorest), api.Receipt{Used: 21000})
	is(t, "behind that", has(s, poor, friend, proposer), "1:0 0:0 0:0 ")
}

// P1403: great prices and balances that go round.
func TestGreat(t *testing.T) {
	s := world(nil, func(s *state.State) {
		s.SetBalance(rich, pow(100))
		s.SetBalance(proposer, neg(5))
	})
	x := call(func(t *api.Tx) { t.Gas, t.Price, t.To = 2000000, 1<<64-1, friend })
	received(t, "a great price", applied(s, x), api.Receipt{Used: 21000})
	paid := word.Mul(num(21000), num(1<<64-1))
	is(t, "rich", s.Balance(rich), word.Sub(word.Sub(pow(100), paid), num(4)))
	is(t, "who proposes", s.Balance(proposer), word.Sub(paid, num(5)))
}

// P1403: logs, in order; those of calls within it that were reverted are none.
func TestLogs(t *testing.T) {
	inner := addr(0x1e)
	log := func(a int) []byte { return code(a, 0, MSTORE, 2, 1, 8, 24, LOG2) }
	laid := code(log(1), code(0, 0, 0, 0, 0, inner, 30000, CALL, POP), log(2))
	for end, want := range map[string]int{"": 3, string(code(0, 0, REVERT)): 2, string(code(INVALID)): 2} {
		s := world(laid, func(s *state.State) { s.SetCode(inner, code(code(0, 0, LOG0), []byte(end))) })
		r := applied(s, call(nil))
		is(t, "so many logs", fmt.Sprint(int(r.Err), len(r.Logs)), fmt.Sprint(0, want))
		first := api.Log{Addr: contract, Topics: []api.Word{num(1), num(2)}, Data: append(make([]byte, 7), 1)}
		last := api.Log{Addr: contract, Topics: []api.Word{num(1), num(2)}, Data: append(make([]byte, 7), 2)}
		logs := []api.Log{first, last}
		if want == 3 {
			logs = []api.Log{first, {Addr: inner}, last}
		}
		received(t, "logs", r, api.Receipt{Used: r.Used, Logs: logs})
	}
	s := world(log(1), func(s *state.State) { s.SetCode(inner, log(2)) })
	applied(s, call(nil))
	r := applied(s, call(func(t *api.Tx) { t.Nonce, t.To = 6, inner }))
	is(t, "just its own logs", fmt.Sprint(len(r.Logs), r.Logs[0].Addr), fmt.Sprint(1, inner))
	for _, end := range [][]byte{code(0, 0, REVERT), code(INVALID)} {
		r = applied(world(append(log(1), end...)), call(nil))
		is(t, "no logs", fmt.Sprint(r.Err != api.OK, len(r.Logs)), "true 0")
	}
}
