package state

import (
	"bytes"

	"conclave/api"
	"conclave/word"
)

// account: as it is now. Of a state that is broken, or breaks as it is looked for, one that was never set: all that is asked is zero then.
func (s *State) account(a api.Addr) account {
	if s.broken() {
		return newAccount()
	}
	if acc, set := s.accounts[a]; set {
		return acc
	}
	node := s.find(s.root, a[:])
	if node == nil {
		return newAccount()
	}
	acc, ok := readAccount(node)
	if !ok {
		s.err = api.ErrGone
		return newAccount()
	}
	return acc
}

// Exists: is the account not empty?
func (s *State) Exists(a api.Addr) bool { return !s.account(a).empty() }

// Balance: of an account.
func (s *State) Balance(a api.Addr) api.Word { return s.account(a).balance }

// Nonce: of an account.
func (s *State) Nonce(a api.Addr) uint64 { return s.account(a).nonce }

// Code: of an account.
func (s *State) Code(a api.Addr) []byte {
	acc := s.account(a)
	if acc.codeHash == noCode() || len(acc.code) > 0 {
		return bytes.Clone(acc.code)
	}
	code, ok := s.told(acc.codeHash)
	if !ok {
		s.err = api.ErrGone
		return nil
	}
	return bytes.Clone(code)
}

// CodeHash: of an account that exists.
func (s *State) CodeHash(a api.Addr) api.Hash {
	acc := s.account(a)
	if acc.empty() {
		return api.Hash{}
	}
	return acc.codeHash
}

// Slot: as it is now.
func (s *State) Slot(a api.Addr, k api.Word) api.Word {
	if s.broken() {
		return api.Word{}
	}
	if v, set := s.slots[place{a, k}]; set {
		return v
	}
	val := s.find(s.account(a).storage, word.Bytes(k))
	if val == nil {
		return api.Word{}
	}
	v, ok := readSlot(val)
	if !ok {
		s.err = api.ErrGone
		return api.Word{}
	}
	return v
}

// Original: the slot as it was as the transaction began.
func (s *State) Original(a api.Addr, k api.Word) api.Word {
	if s.broken() {
		return api.Word{}
	}
	if v, set := s.first[place{a, k}]; set {
		return v
	}
	return s.Slot(a, k)
}
