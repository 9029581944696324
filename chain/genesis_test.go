package chain_test

import (
	"bytes"
	"fmt"
	"maps"
	"math"
	"math/rand/v2"
	"slices"
	"testing"

	"conclave/api"
	"conclave/chain"
	"conclave/keccak"
	"conclave/state"
	"conclave/trie"
	"conclave/word"
)

// seed: of the key of a validator.
func seed(i int) []byte { return bytes.Repeat([]byte{byte(i + 1)}, 32) }

// keys: of so many validators.
func keys(n int) []api.Key {
	var out []api.Key
	for i := range n {
		out = append(out, plainKey(seed(i)))
	}
	return out
}

// world: a genesis of chain 7 with so many validators.
func world(n int) api.Genesis { return api.Genesis{Chain: 7, Keys: keys(n)} }

// addr: an address with something in all its parts.
func addr(i int) api.Addr {
	return api.Addr{0: ^byte(i), 4: 0x80, 11: 1, 12: byte(i >> 8), 19: byte(i)}
}

// allocs: so many, with balances and now and then with code.
func allocs(n int) []api.Alloc {
	var out []api.Alloc
	for i := range n {
		out = append(out, api.Alloc{Addr: addr(i), Balance: word.Of(uint64(i*i + 1)), Code: data(i % 3 * 20)})
	}
	return out
}

// begins: RightGenesis tells whether it is right; of one that is not, Start tells nothing; so say the words.
func begins(t *testing.T, what string, g api.Genesis, right bool) {
	t.Helper()
	want := api.ErrArg
	if right {
		want = api.OK
	}
	is(t, "RightGenesis of "+what, int(chain.RightGenesis(g)), int(want))
	is(t, "the words on "+what, plainGenesis(g), right)
	if !right {
		root, nodes := chain.Start(g)
		is(t, "Start of "+what, fmt.Sprint(root == api.Hash{}, len(nodes)), "true 0")
	}
}

// P1501: how many keys there may be.
func TestGenesisKeys(t *testing.T) {
	begins(t, "nothing", api.Genesis{}, false)
	begins(t, "no key, but accounts", api.Genesis{Chain: 7, Keys: []api.Key{}, Allocs: allocs(3)}, false)
	for n := range 40 {
		begins(t, fmt.Sprint("so many keys: ", n), world(n), n >= 1 && n <= 16)
		begins(t, fmt.Sprint("accounts, and so many keys: ", n), api.Genesis{Keys: keys(n), Allocs: allocs(5)}, n >= 1 && n <= 16)
	}
	for _, id := range heights() {
		begins(t, fmt.Sprint("chain ", id), api.Genesis{Chain: id, Keys: keys(2)}, true)
	}
	begins(t, "keys that are no points", api.Genesis{Keys: []api.Key{{}, {31: 0xff}, {2}}}, true)
}

// P1501: no two keys alike, wherever they stand; those that differ in one byte are not.
func TestGenesisKeysAlike(t *testing.T) {
	for _, n := range []int{2, 3, 4, 15, 16} {
		for i := range n {
			for j := range i {
				g := world(n)
				g.Keys[i] = g.Keys[j]
				begins(t, fmt.Sprint("keys alike: ", i, j, " of ", n), g, false)
			}
		}
	}
	for i := range 32 {
		g := world(4)
		g.Keys[3] = g.Keys[1]
		g.Keys[3][i] ^= 1
		begins(t, fmt.Sprint("keys that differ in byte ", i), g, true)
	}
	begins(t, "keys of noughts", api.Genesis{Keys: make([]api.Key, 2)}, false)
	begins(t, "a key of noughts", api.Genesis{Keys: make([]api.Key, 1)}, true)
}

// P1501: how many accounts there may be.
func TestGenesisAllocs(t *testing.T) {
	for _, n := range []int{0, 1, 2, 16, 17, 63, 64, 65, 66, 128, 1000} {
		g := world(4)
		g.Allocs = allocs(n)
		begins(t, fmt.Sprint("so many accounts: ", n), g, n <= 64)
		for i := range g.Allocs {
			g.Allocs[i] = api.Alloc{Addr: addr(i)}
		}
		begins(t, fmt.Sprint("so many accounts with nothing: ", n), g, n <= 64)
	}
}

// P1501: no two accounts of one address, wherever they stand and whatever else they have.
func TestGenesisAllocsAlike(t *testing.T) {
	for _, n := range []int{2, 5, 64} {
		for i := range n {
			for _, j := range []int{0, i / 2, i - 1} {
				if j < 0 || j >= i {
					continue
				}
				g := world(1)
				g.Allocs = allocs(n)
				g.Allocs[i].Addr = g.Allocs[j].Addr
				begins(t, fmt.Sprint("accounts alike: ", i, j, " of ", n), g, false)
				g.Allocs[i] = api.Alloc{Addr: g.Allocs[j].Addr}
				begins(t, fmt.Sprint("accounts alike, one with nothing: ", i, j, " of ", n), g, false)
			}
		}
	}
	for i := range 20 {
		g := world(1)
		g.Allocs = allocs(3)
		g.Allocs[2] = g.Allocs[0]
		g.Allocs[2].Addr[i] ^= 0x80
		begins(t, fmt.Sprint("accounts whose addresses differ in byte ", i), g, true)
	}
	g := world(1)
	g.Allocs = make([]api.Alloc, 2)
	begins(t, "two accounts of the address of noughts", g, false)
	g.Allocs = g.Allocs[:1]
	begins(t, "one account of the address of noughts", g, true)
}

// P1501: how much code there may be, in whichever account.
func TestGenesisCode(t *testing.T) {
	for n, right := range map[int]bool{0: true, 1: true, 24575: true, 24576: true, 24577: false, 24578: false, 49152: false, 65537: false} {
		for at := range 4 {
			g := world(2)
			g.Allocs = allocs(4)
			g.Allocs[at].Code = data(n)
			begins(t, fmt.Sprint("so much code: ", n, ", at ", at), g, right)
			if right {
				begun(t, g)
			}
		}
	}
	g := world(2)
	g.Allocs = allocs(64)
	for i := range g.Allocs {
		g.Allocs[i].Code = data(24576)
	}
	begins(t, "as much code as there may be, in each", g, true)
}

// P1501: faults in all sets: one is enough.
func TestGenesisFaults(t *testing.T) {
	for faults := range 64 {
		g := world(3)
		g.Allocs = allocs(4)
		if faults&1 != 0 {
			g.Keys = nil
		}
		if faults&2 != 0 {
			g.Keys = append(g.Keys, keys(17)...)
		}
		if faults&4 != 0 {
			g.Keys = append(g.Keys, plainKey(seed(77)), plainKey(seed(77)))
		}
		if faults&8 != 0 {
			g.Allocs = append(g.Allocs, allocs(90)[10:]...)
		}
		if faults&16 != 0 {
			g.Allocs[1].Addr = g.Allocs[3].Addr
		}
		if faults&32 != 0 {
			g.Allocs[2].Code = data(24577)
		}
		begins(t, fmt.Sprintf("faults %06b", faults), g, faults == 0)
	}
}

// plainStart: the state's tree put together by its keys and values; and the codes.
func plainStart(g api.Genesis) (api.Hash, map[api.Hash]string) {
	tree := trie.Open(trie.Empty(), nil)
	told := map[api.Hash]string{}
	for _, a := range g.Allocs {
		if a.Balance == (api.Word{}) && len(a.Code) == 0 {
			continue
		}
		storage, code, key := trie.Empty(), keccak.Sum(a.Code), keccak.Sum(a.Addr[:])
		if len(a.Code) > 0 {
			told[code] = string(a.Code)
		}
		balance := bytes.TrimLeft(word.Bytes(a.Balance), "\x00")
		tree.Put(key[:], plainList(plainNum(0), plainStr(balance), plainStr(storage[:]), plainStr(code[:])))
	}
	root, nodes := tree.Root()
	for _, n := range nodes {
		told[n.Hash] = string(n.Enc)
	}
	return root, told
}

// begun: Start of a right genesis: the root, each of what has to be told just once, and a state over it that has all accounts.
func begun(t *testing.T, g api.Genesis) {
	t.Helper()
	root, nodes := chain.Start(g)
	wantRoot, wantTold := plainStart(g)
	is(t, "the root", root, wantRoot)
	told := map[api.Hash]string{}
	for _, n := range nodes {
		told[n.Hash] = string(n.Enc)
	}
	is(t, "what is told", fmt.Sprint(len(nodes), maps.Equal(told, wantTold)), fmt.Sprint(len(wantTold), true))
	s := state.Open(root, func(h api.Hash) ([]byte, bool) { b, ok := told[h]; return []byte(b), ok })
	for _, a := range g.Allocs {
		is(t, fmt.Sprintf("account %x", a.Addr),
			fmt.Sprintf("%v %d %v %x", s.Balance(a.Addr), s.Nonce(a.Addr), s.Exists(a.Addr), s.Code(a.Addr)),
			fmt.Sprintf("%v %d %v %x", a.Balance, 0, a.Balance != api.Word{} || len(a.Code) > 0, a.Code))
	}
	is(t, "an account that is not there", s.Exists(addr(999)), false)
	is(t, "Err", int(s.Err()), 0)
}

// P1501: Start: with nothing, with balances of 0, with code, with the same code twice, with all that there may be.
func TestStart(t *testing.T) {
	top := api.Word{math.MaxUint64, math.MaxUint64, math.MaxUint64, math.MaxUint64}
	rows := map[string][]api.Alloc{
		"nothing":                       nil,
		"no accounts":                   {},
		"a balance":                     {{Addr: addr(1), Balance: word.Of(1)}},
		"the greatest balance":          {{Addr: addr(1), Balance: top}, {Addr: addr(2), Balance: top}},
		"a balance of 0":                {{Addr: addr(1)}},
		"balances of 0 and more":        {{Addr: addr(1)}, {Addr: addr(2), Balance: word.Of(5)}, {Addr: addr(3)}},
		"code":                          {{Addr: addr(1), Code: data(40)}},
		"code of one byte":              {{Addr: addr(1), Code: []byte{0}}},
		"code of no byte":               {{Addr: addr(1), Code: []byte{}}},
		"code and a balance":            {{Addr: addr(1), Code: data(400), Balance: word.Of(128)}},
		"the same code twice":           {{Addr: addr(1), Code: data(400)}, {Addr: addr(2), Code: data(400)}},
		"the same account but for code": {{Addr: addr(1), Code: data(400), Balance: word.Of(9)}, {Addr: addr(2), Balance: word.Of(9)}},
		"the address of noughts":        {{Balance: word.Of(9)}},
		"all that there may be":         allocs(64),
	}
	for what, l := range rows {
		for _, n := range []int{1, 16} {
			g := api.Genesis{Chain: 7, Keys: keys(n), Allocs: l}
			begins(t, what, g, true)
			begun(t, g)
		}
	}
	for _, l := range [][]api.Alloc{nil, {{Addr: addr(1)}}, {{Addr: addr(1)}, {Addr: addr(2), Code: []byte{}}}} {
		root, nodes := chain.Start(api.Genesis{Keys: keys(1), Allocs: l})
		is(t, "Start with nothing", fmt.Sprint(root == trie.Empty(), len(nodes)), "true 0")
	}
	root, nodes := chain.Start(api.Genesis{Keys: keys(1), Allocs: []api.Alloc{{Balance: word.Of(1)}}})
	is(t, "Start written out", fmt.Sprintf("%x %d", root, len(nodes)), "90790e0d482ba05bcc4af9404a406d6c200136c3e854cfbcd73eedf91a3180f1 1")
}

// P1501: the root hangs on the accounts alone: not on their order, on the keys, on the chain.
func TestStartAlone(t *testing.T) {
	r := rand.New(rand.NewPCG(15, 2))
	g := world(4)
	g.Allocs = allocs(40)
	want, _ := chain.Start(g)
	for n := range 10 {
		other := api.Genesis{Chain: uint64(n), Keys: keys(n + 1), Allocs: slices.Clone(g.Allocs)}
		r.Shuffle(40, func(i, j int) { other.Allocs[i], other.Allocs[j] = other.Allocs[j], other.Allocs[i] })
		root, _ := chain.Start(other)
		is(t, "the root", root, want)
		begun(t, other)
	}
	for i := range g.Allocs {
		for _, f := range []func(a *api.Alloc){
			func(a *api.Alloc) { a.Balance[3]++ },
			func(a *api.Alloc) { a.Code = append(slices.Clip(a.Code), 0) },
			func(a *api.Alloc) { a.Addr[0]++ },
		} {
			other := api.Genesis{Keys: keys(1), Allocs: slices.Clone(g.Allocs)}
			f(&other.Allocs[i])
			if root, _ := chain.Start(other); root == want {
				t.Errorf("the same root, though account %d is another", i)
			}
		}
	}
}
