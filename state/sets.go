package state

import (
	"bytes"
	"slices"

	"conclave/api"
	"conclave/keccak"
)

// set: an account stands in the map of those that were set, otherwise than it was.
func (s *State) set(a api.Addr, change func(acc *account)) {
	acc := s.account(a)
	if s.broken() {
		return
	}
	change(&acc)
	put(s, s.accounts, a, acc)
}

// SetBalance: of an account.
func (s *State) SetBalance(a api.Addr, w api.Word) {
	s.set(a, func(acc *account) { acc.balance = w })
}

// SetNonce: of an account.
func (s *State) SetNonce(a api.Addr, n uint64) {
	s.set(a, func(acc *account) { acc.nonce = n })
}

// SetCode: of an account.
func (s *State) SetCode(a api.Addr, code []byte) {
	s.set(a, func(acc *account) {
		acc.code, acc.codeHash = bytes.Clone(code), keccak.Sum(code)
	})
}

// SetSlot: of an account, which is not changed by that, but has to be known at the next Begin, and for the root.
func (s *State) SetSlot(a api.Addr, k, v api.Word) {
	first := s.Original(a, k)
	s.set(a, func(*account) {})
	if s.broken() {
		return
	}
	put(s, s.first, place{a, k}, first)
	put(s, s.slots, place{a, k}, v)
}

// Warm: was the account warm? It is now.
func (s *State) Warm(a api.Addr) bool {
	if s.broken() {
		return false
	}
	return touch(s, s.warm, a)
}

// WarmSlot: was the slot warm? It is now.
func (s *State) WarmSlot(a api.Addr, k api.Word) bool {
	if s.broken() {
		return false
	}
	return touch(s, s.warmSlots, place{a, k})
}

// Refund: the sum.
func (s *State) Refund() int64 {
	if s.broken() {
		return 0
	}
	return s.refund
}

// AddRefund: to the sum. It may wrap round on its way: where the whole sum is an int64 again, it is that one.
func (s *State) AddRefund(n int64) {
	if s.broken() {
		return
	}
	assign(s, &s.refund, s.refund+n)
}

// Log: behind the others.
func (s *State) Log(l api.Log) {
	if s.broken() {
		return
	}
	assign(s, &s.logs, append(s.logs, copied(l)))
}

// Logs: in order.
func (s *State) Logs() []api.Log {
	if s.broken() {
		return nil
	}
	out := make([]api.Log, len(s.logs))
	for i, l := range s.logs {
		out[i] = copied(l)
	}
	return out
}

func copied(l api.Log) api.Log {
	return api.Log{Addr: l.Addr, Topics: slices.Clone(l.Topics), Data: bytes.Clone(l.Data)}
}
