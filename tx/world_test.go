package tx_test

import (
	"bytes"
	"fmt"
	"testing"

	"conclave/api"
	"conclave/evm"
	"conclave/rlp"
	"conclave/state"
	"conclave/trie"
	"conclave/tx"
	"conclave/word"
)

// op: an opcode by its name.
type op byte

const (
	ADDRESS      op = 0x30
	BALANCE      op = 0x31
	ORIGIN       op = 0x32
	CALLER       op = 0x33
	CALLVALUE    op = 0x34
	CALLDATALOAD op = 0x35
	CALLDATASIZE op = 0x36
	CODECOPY     op = 0x39
	GASPRICE     op = 0x3a
	COINBASE     op = 0x41
	TIMESTAMP    op = 0x42
	NUMBER       op = 0x43
	CHAINID      op = 0x46
	POP          op = 0x50
	MSTORE       op = 0x52
	SLOAD        op = 0x54
	SSTORE       op = 0x55
	JUMP         op = 0x56
	GAS          op = 0x5a
	JUMPDEST     op = 0x5b
	LOG0         op = 0xa0
	LOG2         op = 0xa2
	CREATE       op = 0xf0
	CALL         op = 0xf1
	RETURN       op = 0xf3
	REVERT       op = 0xfd
	INVALID      op = 0xfe
)

// code: opcodes and bytes as they are; numbers and addresses are pushed by the shortest PUSH.
func code(parts ...any) []byte {
	var out []byte
	push := func(b []byte) { out = append(append(out, 0x5f+byte(len(b))), b...) }
	for _, p := range parts {
		switch p := p.(type) {
		case op:
			out = append(out, byte(p))
		case []byte:
			out = append(out, p...)
		case int:
			push(bigNum(uint64(p)).Bytes())
		case api.Addr:
			push(p[:])
		default:
			panic(p)
		}
	}
	return out
}

// gives: ends with the words of all these parts.
func gives(parts ...[]byte) []byte {
	var out []byte
	for i, p := range parts {
		out = append(append(out, p...), code(32*i, MSTORE)...)
	}
	return append(out, code(32*len(parts), 0, RETURN)...)
}

// lays: a first code that lays a code.
func lays(laid []byte) []byte {
	head := code(len(laid), 11, 0, CODECOPY, len(laid), 0, RETURN)
	for len(head) < 11 {
		head = append(code(JUMPDEST), head...)
	}
	if len(head) != 11 {
		panic("another head")
	}
	return append(head, laid...)
}

// Accounts that tests meet: those of seeds 1 and 2, who proposes, one that gets something, one with code, one that is not there.
var (
	rich     = sender(1)
	poor     = sender(2)
	proposer = addr(0x99)
	friend   = addr(0x07)
	contract = addr(0xcc)
	nobody   = addr(0x0b)
)

// around: Price and Origin are others than any transaction's.
var around = evm.Env{Chain: 7, Height: 11, Time: 12, Price: 13, Proposer: proposer, Origin: addr(0x0e)}

const plenty = 1 << 40

// sender: the address of a seed's key.
func sender(c byte) api.Addr { return plainSender(plainSign(7, seed(c), api.Tx{}).From) }

// by: the transaction of a seed, for chain 7.
func by(c byte, t api.Tx) api.Tx { return plainSign(7, seed(c), t) }

// store: what states tell.
type store map[api.Hash][]byte

func (m store) tell(h api.Hash) ([]byte, bool) {
	b, ok := m[h]
	return b, ok
}

// keep: all that is told for a state's root.
func (m store) keep(s *state.State) api.Hash {
	root, nodes := s.Root()
	for _, n := range nodes {
		m[n.Hash] = bytes.Clone(n.Enc)
	}
	return root
}

// everything: what all states tell, but those that tests break.
var everything = store{}

// world: a state, opened with all it has, in which rich and contract have something.
func world(laid []byte, more ...func(s *state.State)) *state.State {
	s := state.Open(trie.Empty(), nil)
	s.SetBalance(rich, num(plenty))
	s.SetNonce(rich, 5)
	s.SetNonce(contract, 1)
	s.SetCode(contract, laid)
	s.SetBalance(contract, num(50))
	s.SetSlot(contract, num(1), num(11))
	s.SetSlot(contract, num(2), num(22))
	for _, f := range more {
		f(s)
	}
	return state.Open(everything.keep(s), everything.tell)
}

// call: of rich, to the contract.
func call(f func(t *api.Tx)) api.Tx {
	t := api.Tx{Nonce: 5, Price: 3, Gas: 100000, To: contract, Value: num(4)}
	if f != nil {
		f(&t)
	}
	return by(1, t)
}

// told: a receipt as a text, in which nil and empty are one.
func told(r api.Receipt) string {
	text := fmt.Sprintf("%v %d %d %x %x", r.Skipped, int(r.Err), r.Used, r.Made, r.Out)
	for _, l := range r.Logs {
		text += fmt.Sprintf(" [%x %v %x]", l.Addr, l.Topics, l.Data)
	}
	return text
}

// received: a receipt that tells just that.
func received(t *testing.T, what string, got, want api.Receipt) {
	t.Helper()
	is(t, what, told(got), told(want))
}

// left: a receipt of one that was skipped.
func left(why api.Errno) api.Receipt { return api.Receipt{Skipped: true, Err: why} }

// held: what a state holds, but for what is warm: its root, refund and logs.
func held(s *state.State) string {
	root, _ := s.Root()
	return fmt.Sprintf("%x %d %v %d", root, s.Refund(), s.Logs(), int(s.Err()))
}

// has: what accounts have: nonces and balances.
func has(s *state.State, accounts ...api.Addr) string {
	var text string
	for _, a := range accounts {
		text += fmt.Sprint(s.Nonce(a), ":", bigOf(s.Balance(a)), " ")
	}
	return text
}

// total: of all balances, modulo 2^256, as the state's tree has them.
func total(t *testing.T, s *state.State) api.Word {
	t.Helper()
	pairs, err := trie.Open(everything.keep(s), everything.tell).All()
	is(t, "All", int(err), 0)
	sum := api.Word{}
	for _, p := range pairs {
		x, err := rlp.Decode(p.Val)
		is(t, "Decode", int(err), 0)
		balance, err := rlp.Word(x.Items[1])
		is(t, "Word", int(err), 0)
		sum = word.Add(sum, balance)
	}
	return sum
}

// P1403: a payment, number by number.
func TestPayment(t *testing.T) {
	s := world(nil)
	x := by(1, api.Tx{Nonce: 5, Price: 3, Gas: 30000, To: friend, Value: num(1000)})
	received(t, "Apply", tx.Apply(s, around, x, 2000000), api.Receipt{Used: 21000})
	is(t, "behind it", has(s, rich, friend, proposer), fmt.Sprintf("6:%d 0:1000 0:63000 ", plenty-63000-1000))
	is(t, "Err", int(s.Err()), 0)
	received(t, "again", tx.Apply(s, around, x, 2000000), left(api.ErrNonce))
}
