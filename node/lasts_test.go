package node_test

import (
	"fmt"
	"math/rand/v2"
	"slices"
	"testing"

	"conclave/api"
	"conclave/chain"
	"conclave/disk"
	"conclave/node"
	"conclave/signer"
	"conclave/wal"
)

func signerOn(t *testing.T, d *disk.Disk, i int) *signer.Signer {
	t.Helper()
	s, err := signer.Open(d, seed(i))
	if err != api.OK {
		t.Fatal(err)
	}
	return s
}

func mark(height uint64, round, step int) signer.Mark {
	return signer.Mark{Height: height, Round: round, Step: step}
}

// folds: the chain of a node is one, and at each height its state is what the blocks give, carried out one behind the other. (P1906)
func folds(t *testing.T, what string, g api.Genesis, n *node.Node) {
	t.Helper()
	p := newPlain(g, 0, seed(0))
	for h := uint64(1); h <= n.Height(); h++ {
		b, c, there := n.At(h)
		if !there || b.State != p.root() {
			t.Fatalf("%s: block %d: %v, of the root %x, not %x", what, h, there, b.State, p.root())
		}
		if _, err := p.apply(b, c); err != api.OK {
			t.Fatalf("%s: block %d: %d", what, h, err)
		}
	}
	p.pool = n.Pool()
	p.holds(t, what, n, n.Height())
	s := n.State()
	for _, a := range g.Allocs {
		if s.Balance(a.Addr) != p.state().Balance(a.Addr) || s.Nonce(a.Addr) != p.state().Nonce(a.Addr) {
			t.Fatalf("%s: another account", what)
		}
	}
	if s.Err() != api.OK {
		t.Fatalf("%s: the state is broken", what)
	}
}

// hashes: of the blocks of a node, by their heights less 1.
func hashes(n *node.Node) []api.Hash {
	var l []api.Hash
	for h := uint64(1); h <= n.Height(); h++ {
		b, _, _ := n.At(h)
		l = append(l, chain.Hash(b))
	}
	return l
}

// lasts: behind a crash a node has the chain that was there, or that and one block.
func lasts(t *testing.T, what string, was []api.Hash, n *node.Node) {
	t.Helper()
	now := hashes(n)
	if len(now) != len(was) && len(now) != len(was)+1 {
		t.Fatalf("%s: height %d behind %d", what, len(now), len(was))
	}
	for i, h := range was {
		if now[i] != h {
			t.Fatalf("%s: another block of height %d", what, i+1)
		}
	}
}

// survive: what a crash may leave of each file: what is safe, all, or a part of what is not.
func survive(r *rand.Rand, d *disk.Disk) []int {
	var kept []int
	how := r.IntN(3)
	for _, name := range files() {
		size, there := sizeOf(d, name)
		switch {
		case !there:
			continue
		case how == 0:
			size = 0
		case how == 1:
			size = max(0, size-r.IntN(500))
		}
		kept = append(kept, size)
	}
	return kept
}

// files: names that a node's files may have, in the order of a disk.
func files() []string {
	l := []string{"chain.0"}
	for i := range 200 {
		l = append(l, wal.File("sign", i))
	}
	slices.Sort(l)
	return l
}

// sizeOf: how many bytes a file has, whether its disk is down or not.
func sizeOf(d *disk.Disk, name string) (int, bool) {
	if d.Spoil(name, 0, 0) == api.ErrGone {
		return 0, false
	}
	size := 0
	for by := 1 << 17; by > 0; by /= 2 {
		if d.Spoil(name, size+by-1, 0) == api.OK {
			size += by
		}
	}
	return size, true
}

// A crash at each step of a life, with any bytes that survive: P1907; and behind it the same calls once more, with another crash: P1908 over all of it.
func TestCrashes(t *testing.T) {
	t.Parallel()
	lives := []*life{lonely(t, 7), social(t, 0).foreign(t), social(t, 1).foreign(t), social(t, 3).foreign(t)}
	for i, l := range lives {
		t.Run(fmt.Sprint(i), func(t *testing.T) {
			t.Parallel()
			r := rand.New(rand.NewPCG(19, uint64(i)))
			more := 0
			for k := 1; k <= l.steps; k++ {
				more += l.crash(t, r, k)
			}
			if more == 0 {
				t.Error("no block that was being committed was there")
			}
		})
	}
}

// foreign: the life without the messages that the node signed in it, since in another life it may sign others.
func (l *life) foreign(t *testing.T) *life {
	t.Helper()
	own := func(c call) bool {
		if len(c.data) == 0 {
			return false
		}
		switch c.data[0] {
		case node.KProposal:
			return proposalOf(t, c.data).By == l.me
		case node.KVote:
			return voteOf(t, c.data).By == l.me
		}
		return false
	}
	l.calls = slices.DeleteFunc(l.calls, own)
	return l
}

// crash: the life on a disk that crashes at a step, and again later; how often the block that was being committed was there.
func (l *life) crash(t *testing.T, r *rand.Rand, k int) int {
	t.Helper()
	g := genesis(l.n)
	d := fresh(t)
	var sent []node.Send
	more, from := 0, 0
	n := opened(t, l.n, l.me, d)
	for try := range 3 {
		if try < 2 {
			d.Arm([]disk.Fault{{At: k, Kind: disk.Crash}})
		}
		n.Start()
		for ; from < len(l.calls) && n.Err() == api.OK; from++ {
			a, _ := l.calls[from].do(n)
			sent = append(sent, a.Sends...)
			for _, t := range a.Timers { // so that it goes on, though the life's own timers may be of other rounds
				if t.Which < 4 && n.Err() == api.OK && r.IntN(3) == 0 {
					a := n.Timeout(t)
					sent = append(sent, a.Sends...)
				}
			}
		}
		onceOf(t, g, l.me, sent)
		if n.Err() == api.OK {
			break
		}
		what := fmt.Sprint("step ", k, " try ", try)
		if n.Err() != api.ErrCrash {
			t.Fatalf("%s: %d", what, n.Err())
		}
		was := hashes(n)
		d.Boot(survive(r, d))
		n = opened(t, l.n, l.me, d)
		lasts(t, what, was, n)
		more += int(n.Height()) - len(was)
		if try == 0 || r.IntN(4) == 0 {
			folds(t, what, g, n)
		}
		from = max(0, from-r.IntN(8))
		k = 1 + r.IntN(12)
	}
	return more
}

// A crash within Open, too: what is opened at last is the chain that was there. (P1907)
func TestCrashesOfOpen(t *testing.T) {
	t.Parallel()
	g := genesis(1)
	r := rand.New(rand.NewPCG(19, 5))
	l := lonely(t, 3)
	for k := 1; k <= l.steps; k++ {
		d := fresh(t)
		n := opened(t, 1, 0, d)
		d.Arm([]disk.Fault{{At: k, Kind: disk.Crash}})
		l.ends(t, n)
		was := hashes(n)
		d.Boot(survive(r, d))
		for at := 1; ; at++ {
			d.Arm([]disk.Fault{{At: at, Kind: disk.Crash}})
			n, err := node.Open(g, 0, seed(0), d)
			d.Boot(survive(r, d))
			if err == api.OK {
				lasts(t, fmt.Sprint("step ", k, " and ", at), was, n)
				folds(t, "opened", g, n)
				break
			}
			if err != api.ErrCrash || at > 30 {
				t.Fatalf("step %d and %d: %d", k, at, err)
			}
		}
	}
}

// What was signed for a height is gone on from: the round, the step, and what it is locked on. (P1902, P1908)
func TestRestored(t *testing.T) {
	d := fresh(t)
	n := opened(t, 4, 0, d)
	n.Start()
	b := next(n, 4, 0)
	h := chain.Hash(b)
	n.Handle(1, proposalBy(1, 0, -1, b))
	n.Handle(1, voteBy(1, 1, 1, 0, h))
	says(t, "locked", n, n.Handle(1, voteBy(3, 1, 1, 0, h)), voted(2, 1, 0, 0, h))

	d.Boot(nil)
	n = opened(t, 4, 0, d)
	says(t, "nothing yet", n, n.Timeout(node.Timer{Height: 1, Which: 4}), "", [2]int{0, 4})
	none := voteBy(2, 1, 1, 0, api.Hash{})
	n.Handle(2, none)
	says(t, "Start", n, n.Start(), "", [2]int{0, 3}, [2]int{0, 4})
	valid := ""
	for _, by := range []int{0, 1, 3} {
		valid += " " + voted(1, 1, 0, by, h)
	}
	says(t, "the votes of its valid block", n, n.Timeout(node.Timer{Height: 1, Which: 4}), named(none)+valid, [2]int{0, 4})
	says(t, "timer 3", n, n.Timeout(node.Timer{Height: 1, Which: 3}), "", [2]int{1, 1})
	// Of round 1 it is locked still: another block gets no vote of it, the same one does.
	other := next(n, 4, 1)
	says(t, "another block", n, n.Handle(2, proposalBy(2, 1, -1, other)), voted(1, 1, 1, 0, api.Hash{}))
	n.Handle(1, voteBy(1, 1, 1, 2, h))
	says(t, "round 2", n, n.Handle(1, voteBy(3, 1, 1, 2, h)), "", [2]int{2, 1})
	says(t, "the same block", n, n.Handle(2, proposalBy(3, 2, 0, b)), voted(1, 1, 2, 0, h)+" "+voted(2, 1, 2, 0, h))

	d.Boot(nil)
	n = opened(t, 4, 0, d)
	says(t, "Start again", n, n.Start(), "", [2]int{2, 3}, [2]int{0, 4})
	// Of round 3 it is the proposer, and proposes the block that is valid.
	a := n.Timeout(node.Timer{Height: 1, Round: 2, Which: 3})
	says(t, "round 3", n, a, "proposal(1 3 2 by 0, 0 txs of 1 0) "+voted(1, 1, 3, 0, h), [2]int{3, 1})
	if p := proposalOf(t, a.Sends[0].Data); chain.Hash(p.Block) != h || p.Block.Round != 0 {
		t.Error("another block")
	}
	// Another node of another height is not restored from that.
	applies(t, "a block", n, b, commitBy(b, 0, 1, 2, 3), api.OK)
	d.Boot(nil)
	n = opened(t, 4, 0, d)
	says(t, "height 2", n, n.Start(), "", [2]int{0, 1}, [2]int{0, 4})
}

// One that crashed behind its proposal does not propose again in that round. (P1908)
func TestRestoredProposer(t *testing.T) {
	d := fresh(t)
	n := opened(t, 4, 1, d)
	submitted(t, n, pay(0, 0, 1, 1))
	d.Arm([]disk.Fault{{At: 3, Kind: disk.Crash}}) // the proposal is signed, its prevote is not
	a := n.Start()
	if len(a.Sends) != 1 || proposalOf(t, a.Sends[0].Data).By != 1 || n.Err() != api.ErrCrash {
		t.Fatalf("%s, %d", told(a), n.Err())
	}
	d.Boot(nil)
	n = opened(t, 4, 1, d)
	says(t, "Start", n, n.Start(), "", [2]int{0, 1}, [2]int{0, 4})
	p := proposalOf(t, a.Sends[0].Data)
	says(t, "its own proposal", n, n.Handle(0, a.Sends[0].Data), voted(1, 1, 0, 1, chain.Hash(p.Block)))
}
