package state

import (
	"conclave/api"
	"conclave/keccak"
	"conclave/rlp"
	"conclave/trie"
	"conclave/word"
)

// account: but for those of its slots that were set.
type account struct {
	nonce    uint64
	balance  api.Word
	storage  api.Hash // the root of the tree that has all other slots
	codeHash api.Hash
	code     []byte // what was set since Open; other codes are told by their hashes
}

// newAccount: as one is that was never set.
func newAccount() account {
	return account{storage: trie.Empty(), codeHash: noCode()}
}

// noCode: the hash of the code of an account that has none.
func noCode() api.Hash { return keccak.Sum(nil) }

func (acc account) empty() bool {
	return acc.nonce == 0 && word.Zero(acc.balance) && acc.codeHash == noCode()
}

// node: the account's, with the root of its whole storage. There is no error: it is far below MaxRlp.
func (acc account) node(storage api.Hash) []byte {
	b, _ := rlp.Encode(rlp.List(
		rlp.Num(acc.nonce),
		rlp.Big(acc.balance),
		rlp.Str(storage[:]),
		rlp.Str(acc.codeHash[:]),
	))
	return b
}

// readAccount: the account of a node; false, if no account that is not empty has this one.
func readAccount(node []byte) (account, bool) {
	x, err := rlp.Decode(node)
	if err != api.OK || len(x.Items) != 4 {
		return account{}, false
	}
	nonce, nonceErr := rlp.Uint(x.Items[0])
	balance, balanceErr := rlp.Word(x.Items[1])
	storage, storageOk := readHash(x.Items[2])
	codeHash, codeOk := readHash(x.Items[3])
	acc := account{nonce: nonce, balance: balance, storage: storage, codeHash: codeHash}
	if nonceErr != api.OK || balanceErr != api.OK || !storageOk || !codeOk || acc.empty() {
		return account{}, false
	}
	return acc, true
}

func readHash(x rlp.Item) (api.Hash, bool) {
	if len(x.Bytes) != len(api.Hash{}) { // a list has no bytes
		return api.Hash{}, false
	}
	return api.Hash(x.Bytes), true
}

// slotValue: a slot's value as its storage has it; of 0 nothing, since such a slot is not there.
func slotValue(w api.Word) []byte {
	if word.Zero(w) {
		return nil
	}
	b, _ := rlp.Encode(rlp.Big(w))
	return b
}

// readSlot: the word that is a slot's value; false, if no slot has this one.
func readSlot(val []byte) (api.Word, bool) {
	x, err := rlp.Decode(val)
	if err != api.OK {
		return api.Word{}, false
	}
	w, err := rlp.Word(x)
	return w, err == api.OK && !word.Zero(w)
}
