package chain

import (
	"slices"

	"conclave/api"
	"conclave/state"
	"conclave/trie"
)

const mostAllocs = 64

// RightGenesis: may a chain begin so?
func RightGenesis(g api.Genesis) api.Errno {
	switch {
	case len(g.Keys) < 1 || len(g.Keys) > api.MaxNodes,
		len(g.Allocs) > mostAllocs,
		slices.ContainsFunc(g.Allocs, tooMuchCode),
		!apart(g.Keys, keyItself),
		!apart(g.Allocs, addrOf):
		return api.ErrArg
	}
	return api.OK
}

func tooMuchCode(a api.Alloc) bool { return len(a.Code) > api.MaxCode }

func keyItself(k api.Key) api.Key { return k }

func addrOf(a api.Alloc) api.Addr { return a.Addr }

// apart: no two of the list have the same key.
func apart[T any, K comparable](list []T, key func(x T) K) bool {
	met := map[K]struct{}{}
	for _, x := range list {
		k := key(x)
		if _, again := met[k]; again {
			return false
		}
		met[k] = struct{}{}
	}
	return true
}

// Start: the root that a chain begins with, and what has to be told for it.
func Start(g api.Genesis) (api.Hash, []trie.Node) {
	if RightGenesis(g) != api.OK {
		return api.Hash{}, nil
	}
	s := state.Open(trie.Empty(), nil)
	for _, a := range g.Allocs {
		s.SetBalance(a.Addr, a.Balance)
		s.SetCode(a.Addr, a.Code)
	}
	return s.Root()
}
