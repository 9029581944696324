package state_test

import (
	"maps"
	"slices"

	"conclave/api"
	"conclave/keccak"
	"conclave/rlp"
	"conclave/state"
	"conclave/trie"
	"conclave/word"
)

// face: what a state and the chapter's words said over again can both be asked.
type face interface {
	Err() api.Errno
	Exists(a api.Addr) bool
	Balance(a api.Addr) api.Word
	Nonce(a api.Addr) uint64
	Code(a api.Addr) []byte
	CodeHash(a api.Addr) api.Hash
	Slot(a api.Addr, k api.Word) api.Word
	Original(a api.Addr, k api.Word) api.Word
	SetBalance(a api.Addr, w api.Word)
	SetNonce(a api.Addr, n uint64)
	SetCode(a api.Addr, code []byte)
	SetSlot(a api.Addr, k, v api.Word)
	Begin()
	Snapshot() int
	Revert(id int) api.Errno
	Warm(a api.Addr) bool
	WarmSlot(a api.Addr, k api.Word) bool
	Refund() int64
	AddRefund(n int64)
	Log(l api.Log)
	Logs() []api.Log
	Root() (api.Hash, []trie.Node)
}

var _ = []face{(*state.State)(nil), (*plain)(nil)}

type plainAccount struct {
	nonce   uint64
	balance api.Word
	code    string
	slots   map[api.Word]api.Word
}

func (x plainAccount) empty() bool {
	return x.nonce == 0 && x.balance == api.Word{} && x.code == ""
}

type plainSlot struct {
	a api.Addr
	k api.Word
}

// plain: the chapter's words said over again. A snapshot is a copy of all there is, and nothing is shared.
type plain struct {
	accounts map[api.Addr]plainAccount
	begun    map[api.Addr]plainAccount // the accounts as they were at Begin
	warm     map[any]bool
	refund   int64
	logs     []api.Log
	snaps    []*plain
}

func newPlain() *plain {
	return &plain{accounts: map[api.Addr]plainAccount{}, begun: map[api.Addr]plainAccount{}, warm: map[any]bool{}}
}

func copyAccounts(m map[api.Addr]plainAccount) map[api.Addr]plainAccount {
	out := map[api.Addr]plainAccount{}
	for a, x := range m {
		x.slots = maps.Clone(x.slots)
		out[a] = x
	}
	return out
}

func (p *plain) copy() *plain {
	return &plain{
		accounts: copyAccounts(p.accounts),
		begun:    copyAccounts(p.begun),
		warm:     maps.Clone(p.warm),
		refund:   p.refund,
		logs:     slices.Clone(p.logs),
		snaps:    slices.Clone(p.snaps),
	}
}

// opened: what a state is that is opened with p's root.
func (p *plain) opened() *plain {
	out := p.copy()
	out.Begin()
	return out
}

func (p *plain) Err() api.Errno              { return api.OK }
func (p *plain) Exists(a api.Addr) bool      { return !p.accounts[a].empty() }
func (p *plain) Balance(a api.Addr) api.Word { return p.accounts[a].balance }
func (p *plain) Nonce(a api.Addr) uint64     { return p.accounts[a].nonce }
func (p *plain) Code(a api.Addr) []byte      { return []byte(p.accounts[a].code) }

func (p *plain) CodeHash(a api.Addr) api.Hash {
	if !p.Exists(a) {
		return api.Hash{}
	}
	return keccak.Sum([]byte(p.accounts[a].code))
}

func (p *plain) Slot(a api.Addr, k api.Word) api.Word     { return p.accounts[a].slots[k] }
func (p *plain) Original(a api.Addr, k api.Word) api.Word { return p.begun[a].slots[k] }

func (p *plain) SetBalance(a api.Addr, w api.Word) {
	x := p.accounts[a]
	x.balance = w
	p.accounts[a] = x
}

func (p *plain) SetNonce(a api.Addr, n uint64) {
	x := p.accounts[a]
	x.nonce = n
	p.accounts[a] = x
}

func (p *plain) SetCode(a api.Addr, code []byte) {
	x := p.accounts[a]
	x.code = string(code)
	p.accounts[a] = x
}

func (p *plain) SetSlot(a api.Addr, k, v api.Word) {
	x := p.accounts[a]
	if x.slots == nil {
		x.slots = map[api.Word]api.Word{}
	}
	x.slots[k] = v
	p.accounts[a] = x
}

func (p *plain) Begin() {
	maps.DeleteFunc(p.accounts, func(_ api.Addr, x plainAccount) bool { return x.empty() })
	p.begun = copyAccounts(p.accounts)
	p.warm, p.refund, p.logs, p.snaps = map[any]bool{}, 0, nil, nil
}

func (p *plain) Snapshot() int {
	p.snaps = append(p.snaps, p.copy())
	return len(p.snaps) - 1
}

func (p *plain) Revert(id int) api.Errno {
	if id < 0 || id >= len(p.snaps) {
		return api.ErrArg
	}
	*p = *p.snaps[id].copy()
	return api.OK
}

func (p *plain) touch(what any) bool {
	was := p.warm[what]
	p.warm[what] = true
	return was
}

func (p *plain) Warm(a api.Addr) bool                 { return p.touch(a) }
func (p *plain) WarmSlot(a api.Addr, k api.Word) bool { return p.touch(plainSlot{a, k}) }
func (p *plain) Refund() int64                        { return p.refund }
func (p *plain) AddRefund(n int64)                    { p.refund += n }
func (p *plain) Log(l api.Log)                        { p.logs = append(slices.Clone(p.logs), l) }
func (p *plain) Logs() []api.Log                      { return p.logs }

// plainTree: the root of a tree with these pairs, and its nodes.
func plainTree(pairs map[string][]byte) (api.Hash, []trie.Node) {
	t := trie.Open(trie.Empty(), nil)
	for key, val := range pairs {
		h := keccak.Sum([]byte(key))
		if err := t.Put(h[:], val); err != api.OK {
			panic(err)
		}
	}
	return t.Root()
}

func encoded(x rlp.Item) []byte {
	b, err := rlp.Encode(x)
	if err != api.OK {
		panic(err)
	}
	return b
}

// plainNode: an account's node.
func plainNode(x plainAccount) ([]byte, []trie.Node) {
	pairs := map[string][]byte{}
	for k, v := range x.slots {
		if v != (api.Word{}) {
			pairs[string(word.Bytes(k))] = encoded(rlp.Big(v))
		}
	}
	storage, nodes := plainTree(pairs)
	code := keccak.Sum([]byte(x.code))
	node := encoded(rlp.List(rlp.Num(x.nonce), rlp.Big(x.balance), rlp.Str(storage[:]), rlp.Str(code[:])))
	if x.code != "" {
		nodes = append(nodes, trie.Node{Hash: code, Enc: []byte(x.code)})
	}
	return node, nodes
}

// Root: with all nodes and codes there are; some may stand there more than once.
func (p *plain) Root() (api.Hash, []trie.Node) {
	var all []trie.Node
	pairs := map[string][]byte{}
	for a, x := range p.accounts {
		if !x.empty() {
			node, nodes := plainNode(x)
			pairs[string(a[:])] = node
			all = append(all, nodes...)
		}
	}
	root, nodes := plainTree(pairs)
	return root, append(all, nodes...)
}
