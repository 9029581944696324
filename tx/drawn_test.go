package tx_test

import (
	"fmt"
	"math"
	"math/rand/v2"
	"slices"
	"testing"

	"conclave/api"
	"conclave/evm"
	"conclave/state"
	"conclave/trie"
	"conclave/tx"
	"conclave/word"
)

// drawer: of worlds and transactions, out of few accounts, so that they meet.
type drawer struct{ *rand.Rand }

func draw[T any](d drawer, l ...T) T { return l[d.IntN(len(l))] }

// contracts: of each world, each with a code of its own.
func contracts() []api.Addr { return []api.Addr{addr(0xc1), addr(0xc2), addr(0xc3)} }

// people: all accounts that transactions are about.
func people() []api.Addr {
	return append(contracts(), sender(1), sender(2), sender(3), proposer, friend, nobody, api.Addr{})
}

func (d drawer) someone() api.Addr { return draw(d, people()...) }

// part: of a code: something that changes a state, or tells of it.
func (d drawer) part() []byte {
	switch d.IntN(10) {
	case 0:
		return code(d.IntN(3), d.IntN(3), SSTORE)
	case 1:
		return code(0, 0, SSTORE, 0, 1, SSTORE, 0, 2, SSTORE)[:draw(d, 3, 7, 11)]
	case 2:
		return code(d.IntN(40), 0, LOG0)
	case 3:
		return code(0, 0, 0, 0, d.IntN(20), d.someone(), 20000, CALL, POP)
	case 4:
		return code(0, 0, 0, 0, d.IntN(20), CALLER, 20000, CALL, POP)
	case 5:
		return code(0, 0, d.IntN(9), CREATE, POP)
	case 6:
		return code(draw(d, ORIGIN, GASPRICE, COINBASE, CALLER, CALLVALUE, CALLDATASIZE, GAS, NUMBER), 32*d.IntN(2), MSTORE)
	case 7:
		return code(d.someone(), BALANCE, 0, MSTORE)
	case 8:
		return code(0, CALLDATALOAD, d.IntN(3), SSTORE)
	}
	return code(d.IntN(3), SLOAD, 32, MSTORE)
}

// program: a code of some parts, which ends well or badly.
func (d drawer) program() []byte {
	var out []byte
	for range 1 + d.IntN(6) {
		out = append(out, d.part()...)
	}
	return append(out, draw(d, nil, nil, code(64, 0, RETURN), code(33, 0, RETURN), code(64, 0, REVERT), code(0, 0, REVERT), code(INVALID), code(POP))...)
}

// balance: little, or so much that sums go round.
func (d drawer) balance() api.Word {
	return draw(d, num(0), num(d.Uint64N(100)), num(d.Uint64N(300000)), num(plenty), num(plenty), pow(200), neg(1+d.Uint64N(50)))
}

// world: drawn accounts, opened with all they have.
func (d drawer) world() *state.State {
	s := state.Open(trie.Empty(), nil)
	for _, a := range people() {
		if d.IntN(4) > 0 {
			s.SetBalance(a, d.balance())
		}
	}
	for _, a := range contracts() {
		s.SetNonce(a, 1)
		s.SetCode(a, d.program())
		for k := range 3 {
			s.SetSlot(a, num(uint64(k)), num(d.Uint64N(3)))
		}
	}
	for c := range 3 {
		s.SetNonce(sender(byte(c+1)), draw[uint64](d, 0, 0, 0, 1, 1, 7, 7, 300, math.MaxUint64-1, math.MaxUint64))
		if d.IntN(4) > 0 {
			s.SetBalance(sender(byte(c+1)), draw(d, num(plenty), pow(200)))
		}
		if d.IntN(6) == 0 {
			s.SetBalance(evm.Address(sender(byte(c+1)), s.Nonce(sender(byte(c+1)))), num(3))
		}
	}
	return state.Open(everything.keep(s), everything.tell)
}

// env: around transactions of chain 7.
func (d drawer) env() evm.Env {
	e := around
	e.Proposer = draw(d, proposer, proposer, d.someone())
	e.Origin = d.someone()
	return e
}

// tx: of one of three senders, mostly one that can be carried out.
func (d drawer) tx(s *state.State) api.Tx {
	c := byte(1 + d.IntN(3))
	t := api.Tx{
		Nonce:  s.Nonce(sender(c)),
		Price:  draw(d, 0, 0, 0, 1, 1, 3, 3, d.Uint64N(100), 1<<40, math.MaxUint64),
		Gas:    draw(d, 21000, d.Uint64N(100000), 60000+d.Uint64N(100000), 200000, 200000, 300000, 300000, 1000000, 2000000, 2000001),
		Create: d.IntN(4) == 0,
		To:     draw(d, draw(d, contracts()...), draw(d, contracts()...), d.someone()),
		Value:  draw(d, num(0), num(0), num(d.Uint64N(50)), num(d.Uint64N(50)), d.balance()),
	}
	if d.IntN(12) == 0 {
		t.Nonce += draw[uint64](d, 1, math.MaxUint64, 2)
	}
	switch {
	case t.Create && d.IntN(6) > 0:
		t.Data = draw(d, d.program(), lays(append(d.program(), 0)))
	case d.IntN(30) == 0:
		t.Data = data(8190 + d.IntN(5))
	default:
		t.Data = data(draw(d, 0, 1, 32, 40))
	}
	t = plainSign(draw[uint64](d, 7, 7, 7, 7, 7, 7, 7, 7, 7, 8), seed(c), t)
	if d.IntN(20) == 0 {
		t.Sig[d.IntN(64)] ^= 1 << d.IntN(8)
	}
	return t
}

// bytes: of a transaction, now and then of none.
func (d drawer) bytes(s *state.State) []byte {
	b := plainEncode(d.tx(s))
	switch d.IntN(20) {
	case 0:
		b[d.IntN(12)] ^= 1 << d.IntN(8)
	case 1:
		b = b[:d.IntN(len(b))]
	}
	return b
}

// copied: a state of the same accounts.
func copied(s *state.State) *state.State { return state.Open(everything.keep(s), everything.tell) }

// alike: do two states have the same accounts, logs and refund, and is the same warm?
func alike(t *testing.T, what string, a, b *state.State) {
	t.Helper()
	is(t, what+": states", held(a), held(b))
	for _, x := range people() {
		is(t, fmt.Sprintf("%s: warm %x", what, x), a.Warm(x), b.Warm(x))
	}
	for _, x := range contracts() {
		is(t, fmt.Sprintf("%s: warm slots of %x", what, x), fmt.Sprint(a.WarmSlot(x, num(0)), a.WarmSlot(x, num(1))), fmt.Sprint(b.WarmSlot(x, num(0)), b.WarmSlot(x, num(1))))
	}
}

// counted: that of each of these kinds some came.
func counted(t *testing.T, met map[string]int, least int, kinds ...string) {
	t.Helper()
	for _, k := range kinds {
		if met[k] < least {
			t.Errorf("just so many of %q: %d", k, met[k])
		}
	}
}

// note: what a receipt was about.
func note(met map[string]int, x api.Tx, r api.Receipt, s *state.State) {
	met[fmt.Sprint("skipped ", r.Skipped, " ", int(r.Err))]++
	if r.Skipped {
		return
	}
	if x.Create {
		met[fmt.Sprint("creation ", r.Err == api.OK)]++
	}
	if len(r.Logs) > 0 {
		met["logs"]++
	}
	if len(r.Out) > 0 {
		met[fmt.Sprint("out ", r.Err == api.OK)]++
	}
	if sum := s.Refund(); sum > 0 {
		met[fmt.Sprint("refund ", uint64(sum) > r.Used/4)]++
	}
}

// P1403: drawn transactions over drawn worlds, against the words said over again.
func TestApplyDrawn(t *testing.T) { applyDrawn(t, 14, 600) }

func applyDrawn(t *testing.T, from uint64, rounds int) {
	d := drawer{rand.New(rand.NewPCG(14, from))}
	met := map[string]int{}
	for round := range rounds {
		s := d.world()
		for i := range 1 + d.IntN(3) {
			x, env := d.tx(s), d.env()
			room := draw(d, 2000000, 2000000, math.MaxUint64, x.Gas, x.Gas-1, d.Uint64N(200000))
			what := fmt.Sprintf("round %d, %d: %s", round, i, seen(x))
			plain := copied(s)
			want := plainApply(plain, env, x, room)
			before := s.Refund()
			got := tx.Apply(s, env, x, room)
			received(t, what, got, want)
			if !want.Skipped {
				alike(t, what, s, plain)
			} else {
				is(t, what+": refund", s.Refund(), before)
			}
			note(met, x, got, s)
		}
		if t.Failed() {
			return
		}
	}
	counted(t, met, rounds/200, "skipped true 3", "skipped true 21", "skipped true 56", "skipped true 61", "skipped true 62",
		"skipped false 0", "skipped false 50", "skipped false 51", "skipped false 53", "skipped false 57",
		"creation true", "creation false", "logs", "out true", "out false", "refund true", "refund false")
}

// P1404: drawn blocks, against the words said over again.
func TestBlockDrawn(t *testing.T) { blockDrawn(t, 15, 150) }

func blockDrawn(t *testing.T, from uint64, rounds int) {
	d := drawer{rand.New(rand.NewPCG(14, from))}
	met := map[string]int{}
	for round := range rounds {
		s, env := d.world(), d.env()
		var txs [][]byte
		ahead := copied(s) // so that nonces go up
		for range d.IntN(9) {
			b := d.bytes(ahead)
			if len(txs) > 0 && d.IntN(8) == 0 {
				b = slices.Clone(draw(d, txs...))
			}
			txs = append(txs, b)
			plainBlock(ahead, env, [][]byte{b})
		}
		plain := copied(s)
		got, want := tx.Block(s, env, txs), plainBlock(plain, env, txs)
		is(t, fmt.Sprint("round ", round, ": receipts"), len(got), len(txs))
		carried := false
		for i := range got {
			received(t, fmt.Sprintf("round %d, %d: %x", round, i, txs[i]), got[i], want[i])
			carried = carried || !got[i].Skipped
			met[fmt.Sprint(got[i].Skipped, " ", int(got[i].Err))]++
		}
		if carried {
			alike(t, fmt.Sprint("round ", round), s, plain)
		}
		if t.Failed() {
			return
		}
	}
	counted(t, met, 3, "true 3", "true 10", "true 11", "true 21", "true 56", "true 61", "true 62", "false 0", "false 53", "false 57")
}

// P1405: of drawn transactions, the laws by themselves: what is skipped changes nothing; all balances together stay what they were; one that was carried out is skipped with ErrNonce when it comes again, and its sender's nonce is one more.
func TestLaws(t *testing.T) { laws(t, 16, 300) }

func laws(t *testing.T, from uint64, rounds int) {
	d := drawer{rand.New(rand.NewPCG(14, from))}
	met := map[string]int{}
	for round := range rounds {
		s := d.world()
		for i := range 3 {
			x, env := d.tx(s), d.env()
			who := plainSender(x.From)
			what := fmt.Sprintf("round %d, %d: %s", round, i, seen(x))
			before, sum, nonce := held(s), total(t, s), s.Nonce(who)
			r := tx.Apply(s, env, x, 2000000)
			is(t, what+": all balances", total(t, s), sum)
			if r.Skipped {
				is(t, what+": skipped", held(s), before)
				is(t, what+": all else", told(r), told(left(r.Err)))
				met["skipped"]++
				continue
			}
			is(t, what+": nonce", s.Nonce(who), nonce+1)
			if r.Used > x.Gas || r.Used < 21000*4/5 {
				t.Errorf("%s: used are %d", what, r.Used)
			}
			if r.Err != api.OK && (len(r.Logs) > 0 || r.Made != api.Addr{} || r.Err != api.ErrRevert && len(r.Out) > 0) {
				t.Errorf("%s: %s", what, told(r))
			}
			behind := held(s)
			received(t, what+": again", tx.Apply(s, env, x, 2000000), left(api.ErrNonce))
			is(t, what+": again", held(s), behind)
			met[fmt.Sprint("carried out ", r.Err == api.OK)]++
		}
		if t.Failed() {
			return
		}
	}
	counted(t, met, 30, "skipped", "carried out true", "carried out false")
}

// P1405: fees go from the sender to who proposes, and what is sent goes to whom it is sent.
func TestFees(t *testing.T) {
	d := drawer{rand.New(rand.NewPCG(14, 17))}
	for range 100 {
		price, gas, value := d.Uint64(), 21000+d.Uint64N(1979001), num(d.Uint64())
		s := world(nil, func(s *state.State) { s.SetBalance(rich, pow(180)); s.SetBalance(proposer, d.balance()) })
		had := s.Balance(proposer)
		r := applied(s, by(1, api.Tx{Nonce: 5, Price: price, Gas: gas, To: friend, Value: value}))
		received(t, "Apply", r, api.Receipt{Used: 21000})
		fee := word.Mul(num(21000), num(price))
		is(t, "behind it", fmt.Sprint(s.Balance(rich), s.Balance(friend), s.Balance(proposer)), fmt.Sprint(word.Sub(word.Sub(pow(180), fee), value), value, word.Add(had, fee)))
	}
}
