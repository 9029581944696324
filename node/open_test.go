package node_test

import (
	"bytes"
	"fmt"
	"math"
	"slices"
	"testing"

	"conclave/api"
	"conclave/chain"
	"conclave/disk"
	"conclave/ed"
	"conclave/kv"
	"conclave/node"
	"conclave/signer"
	"conclave/wal"
	"conclave/word"
)

// refused: Open answers that error, and no node.
func refused(t *testing.T, what string, g api.Genesis, me int, s []byte, d *disk.Disk, want api.Errno) {
	t.Helper()
	if n, err := node.Open(g, me, s, d); n != nil || err != want {
		t.Errorf("%s: %v, %d, not %d", what, n, err, want)
	}
}

// What may not be handed to Open. (P1901)
func TestOpenArgs(t *testing.T) {
	d := fresh(t)
	keys := func(n int) (l []api.Key) {
		for i := range n {
			l = append(l, keyOf(seed(i)))
		}
		return l
	}
	wrong := map[string]api.Genesis{
		"nothing":       {},
		"17 keys":       {Keys: keys(17)},
		"a key twice":   {Keys: append(keys(2), keyOf(seed(0)))},
		"an addr twice": {Keys: keys(1), Allocs: []api.Alloc{{Addr: api.Addr{1}}, {Addr: api.Addr{1}, Balance: word.Of(1)}}},
		"long code":     {Keys: keys(1), Allocs: []api.Alloc{{Code: make([]byte, api.MaxCode+1)}}},
		"65 accounts":   {Keys: keys(1), Allocs: make([]api.Alloc, 65)},
	}
	for what, g := range wrong {
		refused(t, what, g, 0, seed(0), d, api.ErrArg)
		refused(t, what+" and no disk", g, 0, seed(0), nil, api.ErrArg)
	}
	for _, me := range []int{-1, 4, 5, math.MinInt, math.MaxInt} {
		refused(t, fmt.Sprint("me ", me), genesis(4), me, seed(0), nil, api.ErrArg)
	}
	for what, s := range map[string][]byte{"nil": nil, "31 bytes": make([]byte, 31), "33 bytes": make([]byte, 33), "another's": seed(1), "a sender's": sender(0)} {
		refused(t, "seed: "+what, genesis(4), 0, s, nil, api.ErrArg)
	}
	if d.Steps() != 0 {
		t.Error("the disk was asked")
	}
	for _, n := range []int{1, api.MaxNodes} {
		if x, err := node.Open(api.Genesis{Keys: keys(n)}, n-1, seed(n-1), d); err != api.OK || x.Height() != 0 {
			t.Errorf("%d keys: %d", n, err)
		}
		d = fresh(t)
	}
}

// A disk that is none, or fails. (P1901)
func TestOpenDisk(t *testing.T) {
	g := genesis(1)
	refused(t, "nil", g, 0, seed(0), nil, api.ErrNil)
	d := fresh(t)
	d.Arm([]disk.Fault{{At: 1, Kind: disk.Crash}})
	d.Read("x")
	refused(t, "down", g, 0, seed(0), d, api.ErrCrash)

	n, d := alone(t)
	submitted(t, n, pay(0, 0, 1, 1))
	grow(t, n)
	for at, name := range []string{"sign", "chain"} { // both are read, this one first
		for kind, err := range map[int]api.Errno{disk.IO: api.ErrIO, disk.Full: api.ErrFull, disk.Crash: api.ErrCrash} {
			d.Arm([]disk.Fault{{At: at + 1, Kind: kind}})
			refused(t, name, g, 0, seed(0), d, err)
			d.Boot(nil)
		}
	}
	opened(t, 1, 0, d)

	small, _ := disk.New(1000) // less than the first state takes
	refused(t, "small", g, 0, seed(0), small, api.ErrFull)
	for at := 1; at <= 2; at++ {
		for kind, err := range map[int]api.Errno{disk.IO: api.ErrIO, disk.Full: api.ErrFull, disk.Crash: api.ErrCrash} {
			d := fresh(t)
			d.Arm([]disk.Fault{{At: at, Kind: kind}})
			refused(t, "Put", g, 0, seed(0), d, err)
			d.Boot([]int{at * 100})
			if n := opened(t, 1, 0, d); n.State().Balance(addrOf(sender(0))) != word.Of(rich) {
				t.Error("a state without accounts")
			}
		}
	}
}

// Logs that are none: the signer's, and the store's. (P1901)
func TestOpenLogs(t *testing.T) {
	d := fresh(t)
	s, _ := signer.Open(d, seed(1))
	s.Sign(signer.Mark{Height: 1, Step: 1}, []byte("text"), nil)
	refused(t, "another's signatures", genesis(1), 0, seed(0), d, api.ErrRot)

	for _, record := range [][]byte{{}, {7}, {0, 1}} {
		d := fresh(t)
		l, _ := wal.Open(d, "chain", 1<<30)
		l.Append(record)
		l.Sync()
		refused(t, fmt.Sprint("record ", record), genesis(1), 0, seed(0), d, api.ErrRot)
	}
}

// pairs: what a store has, by its keys.
type pairs map[string][]byte

func stored(t *testing.T, d *disk.Disk) pairs {
	t.Helper()
	s, err := kv.Open(d, "chain", 1<<30)
	if err != api.OK {
		t.Fatal(err)
	}
	p := pairs{}
	for _, c := range s.Range(nil, nil) {
		p[string(c.Key)] = c.Val
	}
	return p
}

// with: the same, but for a key.
func (p pairs) with(key string, val []byte) pairs {
	q := p.without(key)
	q[key] = val
	return q
}

func (p pairs) without(keys ...string) pairs {
	q := pairs{}
	for k, v := range p {
		if !slices.Contains(keys, k) {
			q[k] = v
		}
	}
	return q
}

// disk: one whose store has just these.
func (p pairs) disk(t *testing.T) *disk.Disk {
	t.Helper()
	d := fresh(t)
	s, err := kv.Open(d, "chain", 1<<30)
	if err != api.OK {
		t.Fatal(err)
	}
	for k, v := range p {
		if err := s.Put([]kv.Change{{Key: []byte(k), Val: v}}); err != api.OK {
			t.Fatal(err)
		}
	}
	return d
}

func at(kind byte, h uint64) string {
	return string([]byte{kind, byte(h >> 56), byte(h >> 48), byte(h >> 40), byte(h >> 32), byte(h >> 24), byte(h >> 16), byte(h >> 8), byte(h)})
}

func ended(h uint64, root api.Hash) []byte { return append([]byte(at('h', h))[1:], root[:]...) }

// three: a validator alone, behind three blocks with transactions, and the roots behind them.
func three(t *testing.T) (*node.Node, *disk.Disk, []api.Hash) {
	t.Helper()
	n, d := alone(t)
	roots := []api.Hash{n.Root()}
	for h := range 3 {
		submitted(t, n, pay(0, uint64(h), 1+h, 5))
		submitted(t, n, signed(1, api.Tx{Nonce: uint64(h), Price: 1, Gas: 100000, To: address(counter)}))
		grow(t, n)
		roots = append(roots, n.Root())
	}
	return n, d, roots
}

// What the store has: the keys that the chapter names, and under them what it says. (P1901)
func TestStored(t *testing.T) {
	n, d, roots := three(t)
	p := stored(t, d)
	for h := uint64(1); h <= 3; h++ {
		b, c, _ := n.At(h)
		block, _ := chain.EncodeBlock(b)
		commit, _ := chain.EncodeCommit(c)
		if !bytes.Equal(p[at('b', h)], block) || !bytes.Equal(p[at('c', h)], commit) || b.State != roots[h-1] {
			t.Errorf("height %d", h)
		}
	}
	if !bytes.Equal(p["h"], ended(3, roots[3])) {
		t.Error("the end")
	}
	plain := newPlain(genesis(1), 0, seed(0))
	for h := uint64(1); h <= 3; h++ {
		b, c, _ := n.At(h)
		plain.apply(b, c)
	}
	for h, enc := range plain.nodes {
		if !bytes.Equal(p["n"+string(h[:])], enc) {
			t.Errorf("the node %x is not there", h)
		}
	}
	if want := 2*3 + 1 + len(plain.nodes); len(p) != want {
		t.Errorf("%d keys, not %d", len(p), want)
	}
	for _, name := range d.List() {
		if name != "chain.0" && name[:5] != "sign." {
			t.Errorf("a file %s", name)
		}
	}
}

// A store that is no chain. (P1901)
func TestOpenRot(t *testing.T) {
	n, d, roots := three(t)
	p := stored(t, d)
	b2, c2, _ := n.At(2)
	b3, _, _ := n.At(3)
	// other: the store with another block 2 or 3, with a commit that holds for it.
	other := func(b api.Block, change func(b *api.Block)) pairs {
		change(&b)
		h := b2.Height
		if b.Prev == b3.Prev {
			h = b3.Height
		}
		block, err := chain.EncodeBlock(b)
		if err != api.OK {
			t.Fatal(err)
		}
		commit, _ := chain.EncodeCommit(commitBy(b, 0, 0))
		return p.with(at('b', h), block).with(at('c', h), commit)
	}
	encoded := func(c api.Commit, change func(c *api.Commit)) []byte {
		c.Votes = slices.Clone(c.Votes)
		change(&c)
		b, _ := chain.EncodeCommit(c)
		return b
	}
	extra := api.Hash(bytes.Repeat([]byte{1}, 32))
	wrong := map[string]pairs{
		"no end":                  p.without("h"),
		"an end of 39 bytes":      p.with("h", p["h"][:39]),
		"an end of 41 bytes":      p.with("h", append(slices.Clone(p["h"]), 0)),
		"an empty end":            p.with("h", nil),
		"an end at 0":             p.with("h", ended(0, roots[0])),
		"an end at 0, no blocks":  p.with("h", ended(0, roots[0])).without(at('b', 1), at('c', 1), at('b', 2), at('c', 2), at('b', 3), at('c', 3)),
		"an end at 0, a block":    p.with("h", ended(0, roots[0])).without(at('b', 2), at('c', 2), at('b', 3), at('c', 3)),
		"keys of 8, another end":  p.with(at('b', 4)[:8], p[at('b', 3)]).with(at('c', 4)[:8], p[at('c', 3)]).with("h", ended(4, roots[3])),
		"keys of 8":               p.with(at('b', 4)[:8], p[at('b', 3)]).with(at('c', 4)[:8], p[at('c', 3)]),
		"keys of 10":              p.with(at('b', 4)+"1", p[at('b', 3)]).with(at('c', 4)+"1", p[at('c', 3)]),
		"an end at 1":             p.with("h", ended(1, roots[1])),
		"an end at 4":             p.with("h", ended(4, roots[3])),
		"an end far above":        p.with("h", ended(math.MaxUint64, roots[3])),
		"an end with another":     p.with("h", ended(3, roots[2])),
		"an end at 2 with others": p.with("h", ended(2, roots[3])),
		"block 4 alone":           p.with(at('b', 4), p[at('b', 3)]),
		"commit 4 alone":          p.with(at('c', 4), p[at('c', 3)]),
		"block 3 as 4, too":       p.with(at('b', 4), p[at('b', 3)]).with(at('c', 4), p[at('c', 3)]),
		"height 0":                p.with(at('b', 0), p[at('b', 1)]).with(at('c', 0), p[at('c', 1)]),
		"block 1 and a commit 0":  p.without(at('c', 1)).with(at('c', 0), p[at('c', 1)]),
		"another key":             p.with("x", nil),
		"a longer end's key":      p.with("h1", p["h"]),
		"a block's key of 8":      p.with(at('b', 1)[:8], p[at('b', 1)]),
		"a block's key of 10":     p.with(at('b', 1)+"1", p[at('b', 1)]),
		"a commit's key of 8":     p.with(at('c', 1)[:8], p[at('c', 1)]),
		"a node's key of 32":      p.with("n"+string(roots[3][:31]), p["n"+string(roots[3][:])]),
		"another node":            p.with("n"+string(extra[:]), []byte{1}),
		"a node is another":       p.with("n"+string(roots[3][:]), p["n"+string(roots[2][:])]),
		"no block":                p.with(at('b', 2), []byte{1}),
		"an empty block":          p.with(at('b', 2), nil),
		"block 1 as 2":            p.with(at('b', 2), p[at('b', 1)]).with(at('c', 2), p[at('c', 1)]),
		"block 2 of height 3":     other(b2, func(b *api.Block) { b.Height = 3 }),
		"block 2, no Prev":        other(b2, func(b *api.Block) { b.Prev = api.Hash{} }),
		"block 2, other State":    other(b2, func(b *api.Block) { b.State = roots[0] }),
		"block 2, other txs":      other(b2, func(b *api.Block) { b.Txs = b.Txs[:1] }),
		"block 2, Proposer":       other(b2, func(b *api.Block) { b.Proposer = 1 }),
		"block 3, other State":    other(b3, func(b *api.Block) { b.State = roots[3] }),
		"block 3, other txs":      other(b3, func(b *api.Block) { b.Txs = b.Txs[:1] }),
		"no commit":               p.with(at('c', 2), []byte{1}),
		"a commit without votes":  p.with(at('c', 2), encoded(c2, func(c *api.Commit) { c.Votes = nil })),
		"a commit that is rot":    p.with(at('c', 2), encoded(c2, func(c *api.Commit) { c.Votes[0].Sig[5] ^= 1 })),
		"a commit of prevotes":    p.with(at('c', 2), encoded(c2, func(c *api.Commit) { c.Votes[0].Kind = api.Prevote })),
		"commits in turn":         p.with(at('c', 2), p[at('c', 3)]).with(at('c', 3), p[at('c', 2)]),
		"a commit of another":     p.with(at('c', 2), encoded(c2, func(c *api.Commit) { *c = commitBy(next(n, 1, 0), 0, 0) })),
	}
	first := map[string]bool{}
	_, nodes := chain.Start(genesis(1))
	for _, x := range nodes {
		first["n"+string(x.Hash[:])] = true
	}
	for key := range p {
		if !first[key] {
			wrong[fmt.Sprintf("without %q", key)] = p.without(key)
		}
	}
	for what, q := range wrong {
		d := q.disk(t)
		steps, was := d.Steps(), stored(t, d)
		refused(t, what, genesis(1), 0, seed(0), d, api.ErrRot)
		if d.Steps() > steps+2 { // it is read, once here and once by Open
			t.Errorf("%s: the disk is changed", what)
		}
		if now := stored(t, d); fmt.Sprint(now) != fmt.Sprint(was) {
			t.Errorf("%s: the store is changed", what)
		}
	}
	refused(t, "of another genesis", genesis(2), 0, seed(0), p.disk(t), api.ErrRot)
	for what, q := range map[string]pairs{"as it was": p, "without a node of the first state": p.without("n" + string(roots[0][:]))} {
		d := q.disk(t)
		if x := opened(t, 1, 0, d); x.Height() != 3 || x.Root() != n.Root() {
			t.Errorf("%s: height %d", what, x.Height())
		}
		if fmt.Sprint(stored(t, d)) != fmt.Sprint(p) {
			t.Errorf("%s: another store", what)
		}
	}
}

// The last block was stored, and not carried out, or in part. (P1901, P1907)
func TestOpenCarriesOut(t *testing.T) {
	t.Parallel()
	n, d, roots := three(t)
	p := stored(t, d)
	plain := newPlain(genesis(1), 0, seed(0))
	for h := uint64(1); h <= 3; h++ {
		var own []string // what state told for this block alone
		had := len(plain.nodes)
		known := map[api.Hash]bool{}
		for x := range plain.nodes {
			known[x] = true
		}
		before := p.without("h")
		if h > 1 {
			before = p.with("h", ended(h-1, roots[h-1]))
		}
		for i := h + 1; i <= 3; i++ {
			before = before.without(at('b', i), at('c', i))
		}
		b, c, _ := n.At(h)
		plain.apply(b, c)
		for x := range plain.nodes {
			if !known[x] {
				own = append(own, "n"+string(x[:]))
			}
		}
		if len(own) != len(plain.nodes)-had || len(own) < 3 {
			t.Fatalf("%d nodes of block %d", len(own), h)
		}
		for many := range len(own) + 1 {
			q := before.without(own[:many]...)
			carriesOut(t, fmt.Sprint("block ", h, " without ", many), q, plain)
		}
	}
}

// carriesOut: the last block of a store is carried out as it is opened; if the disk fails in that, that is told, and it is done the next time.
func carriesOut(t *testing.T, what string, q pairs, plain *plain) {
	t.Helper()
	good := q.disk(t)
	before := good.Steps()
	x := opened(t, 1, 0, good)
	plain.holds(t, what, x, x.Height())
	if got := stored(t, good); !bytes.Equal(got["h"], ended(x.Height(), x.Root())) {
		t.Errorf("%s: no end", what)
	}
	steps := good.Steps() - before - 1 // stored has read once
	if again := opened(t, 1, 0, good); again.Root() != x.Root() {
		t.Errorf("%s: another root", what)
	}
	for k := 2; k <= steps; k++ { // the first step reads
		d := q.disk(t)
		kind := 1 + k%3
		err := []api.Errno{api.ErrIO, api.ErrFull, api.ErrCrash}[kind-1]
		d.Arm([]disk.Fault{{At: k, Kind: kind}})
		refused(t, fmt.Sprint(what, ", step ", k), genesis(1), 0, seed(0), d, err)
		d.Boot([]int{1 << 20})
		plain.holds(t, what+" again", opened(t, 1, 0, d), x.Height())
	}
}

// One byte of a disk is another one. (P1901, P3)
func TestOpenSpoiled(t *testing.T) {
	t.Parallel()
	n, d, _ := three(t)
	g := genesis(1)
	for _, name := range d.List() {
		b, _ := d.Read(name)
		for i := 0; i < len(b); i += 3 {
			by := byte(1) << (i % 8)
			if i%5 == 0 {
				by = 0xff
			}
			d.Spoil(name, i, by)
			refused(t, fmt.Sprint(name, " at ", i), g, 0, seed(0), d, api.ErrRot)
			d.Spoil(name, i, by)
		}
	}
	if x := opened(t, 1, 0, d); x.Height() != n.Height() || x.Root() != n.Root() {
		t.Error("not as it was")
	}
}

// What is opened is behind the blocks that were stored; the pool does not last. (P1901)
func TestOpenAgain(t *testing.T) {
	n, d, _ := three(t)
	submitted(t, n, pay(2, 0, 1, 1))
	x := opened(t, 1, 0, d)
	if x.Height() != 3 || x.Root() != n.Root() || len(x.Pool()) != 0 || x.Err() != api.OK {
		t.Error("another node")
	}
	for h := range uint64(5) {
		a, b, there := n.At(h)
		c, e, also := x.At(h)
		if fmt.Sprint(a, b, there, n.Receipts(h)) != fmt.Sprint(c, e, also, x.Receipts(h)) {
			t.Errorf("height %d", h)
		}
	}
	steps := d.Steps()
	opened(t, 1, 0, d)
	if now := d.Steps(); now > steps+3 {
		t.Errorf("%d steps to open what is whole", now-steps)
	}
	grow(t, x)
	if k, _ := ed.Public(seed(0)); k != genesis(1).Keys[0] {
		t.Error("key")
	}
}

// What state told is more than a record of the log holds: it is stored in as many batches as it takes, up to the last byte of each. (P1901)
func TestBatches(t *testing.T) {
	t.Parallel()
	code := func(i, size int) []byte {
		c := make([]byte, size)
		c[1] = byte(i) // behind a stop
		return c
	}
	g := api.Genesis{Chain: chainNo, Keys: []api.Key{keyOf(seed(0))}, Allocs: []api.Alloc{{Addr: addrOf(sender(0)), Balance: word.Of(rich)}}}
	for i := range 63 {
		g.Allocs = append(g.Allocs, api.Alloc{Addr: address(i), Code: code(i, api.MaxCode-i)})
	}
	d := fresh(t)
	n, err := node.Open(g, 0, seed(0), d)
	if err != api.OK {
		t.Fatal(err)
	}
	for i := range 63 {
		if !bytes.Equal(n.State().Code(address(i)), code(i, api.MaxCode-i)) {
			t.Errorf("the code of %d", i)
		}
	}
	if d.Steps() > 2+2*32 { // two codes have room in a batch
		t.Errorf("%d steps", d.Steps())
	}
	if l := d.List(); len(l) != 1 || l[0] != "chain.0" {
		t.Errorf("files %v", l)
	}
	grow(t, n)
	for last := 15600; last < 16500; last++ {
		g.Allocs = []api.Alloc{{Addr: address(1), Code: code(1, api.MaxCode)}, {Addr: address(2), Code: code(2, api.MaxCode)}, {Addr: address(3), Code: code(3, last)}}
		n, err := node.Open(g, 0, seed(0), fresh(t))
		if err != api.OK || len(n.State().Code(address(3))) != last {
			t.Fatalf("%d bytes: %d", last, err)
		}
	}
	// Codes of accounts that a block changes come again; they are there already.
	size := func() int {
		b, _ := d.Read("chain.0")
		return len(b)
	}
	was := size()
	var txs [][]byte
	for i := range 8 {
		txs = append(txs, signed(0, api.Tx{Nonce: uint64(i), Gas: 30000, To: address(i), Value: word.Of(1)}))
	}
	b := next(n, 1, 0, txs...)
	if a, err := n.Apply(b, commitBy(b, 0, 0)); err != api.OK {
		t.Fatal(told(a), err)
	}
	if now := size(); now > was+20000 || n.State().Balance(address(7)) != word.Of(1) {
		t.Errorf("%d bytes more", now-was)
	}
}
