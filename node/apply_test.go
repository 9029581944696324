package node_test

import (
	"fmt"
	"math"
	"slices"
	"testing"

	"conclave/api"
	"conclave/chain"
	"conclave/disk"
	"conclave/node"
)

// applies: the answer of Apply, and whether the node is a block further.
func applies(t *testing.T, what string, n *node.Node, b api.Block, c api.Commit, want api.Errno) {
	t.Helper()
	h, root := n.Height(), n.Root()
	a, err := n.Apply(b, c)
	if err != want {
		t.Errorf("%s: %d, not %d", what, err, want)
	}
	if err != api.OK {
		if !nothing(a) || n.Height() != h || n.Root() != root {
			t.Errorf("%s: height %d, %s", what, n.Height(), told(a))
		}
		if _, _, there := n.At(h + 1); there {
			t.Errorf("%s: there is a block", what)
		}
		return
	}
	says(t, what, n, a, "", [2]int{0, 5})
	got, commit, there := n.At(h + 1)
	if n.Height() != h+1 || !there || chain.Hash(got) != chain.Hash(b) || fmt.Sprint(commit) != fmt.Sprint(c) {
		t.Errorf("%s: height %d", what, n.Height())
	}
}

// Each error of Apply, in its order. (P1904)
func TestApply(t *testing.T) {
	n := of4(t, 0)
	first := next(n, 4, 0, pay(0, 0, 1, 1))
	applies(t, "a block", n, first, commitBy(first, 0, 1, 2, 3), api.OK)
	applies(t, "the same", n, first, commitBy(first, 0, 1, 2, 3), api.ErrBlock)
	b := next(n, 4, 1, pay(0, 1, 1, 1))
	good := commitBy(b, 3, 0, 1, 3)
	for what, change := range map[string]func(b *api.Block){
		"height 0":       func(b *api.Block) { b.Height = 0 },
		"height 1":       func(b *api.Block) { b.Height = 1 },
		"height 3":       func(b *api.Block) { b.Height, b.Proposer = 3, 0 },
		"height far":     func(b *api.Block) { b.Height = math.MaxUint64 },
		"prev":           func(b *api.Block) { b.Prev[7]++ },
		"no prev":        func(b *api.Block) { b.Prev = api.Hash{} },
		"state":          func(b *api.Block) { b.State[7]++ },
		"state ahead":    func(b *api.Block) { b.State = first.State },
		"proposer":       func(b *api.Block) { b.Proposer++ },
		"far proposer":   func(b *api.Block) { b.Proposer += 4 },
		"proposer below": func(b *api.Block) { b.Proposer = -1 },
		"round":          func(b *api.Block) { b.Round++ },
		"round below":    func(b *api.Block) { b.Round, b.Proposer = -1, 2 },
		"round far":      func(b *api.Block) { b.Round, b.Proposer = 1<<31, 2 },
		"65 txs":         func(b *api.Block) { b.Txs = make([][]byte, 65) },
		"bytes":          func(b *api.Block) { b.Txs = [][]byte{make([]byte, api.MaxBlock)} },
	} {
		x := b
		change(&x)
		applies(t, what, n, x, commitBy(x, 0, 0, 1, 2), api.ErrBlock)
		applies(t, what+" without a commit", n, x, api.Commit{}, api.ErrBlock)
	}
	for what, change := range map[string]func(c *api.Commit){
		"no hash":        func(c *api.Commit) { c.Block = api.Hash{} },
		"two votes":      func(c *api.Commit) { c.Votes = c.Votes[:2] },
		"no votes":       func(c *api.Commit) { c.Votes = nil },
		"not rising":     func(c *api.Commit) { c.Votes[0], c.Votes[1] = c.Votes[1], c.Votes[0] },
		"one twice":      func(c *api.Commit) { c.Votes[1] = c.Votes[0] },
		"prevotes":       func(c *api.Commit) { c.Votes[1].Kind = api.Prevote },
		"a signature":    func(c *api.Commit) { c.Votes[2].Sig[60] ^= 2 },
		"another round":  func(c *api.Commit) { c.Round++ },
		"a vote's round": func(c *api.Commit) { c.Votes[0].Round++ },
		"another height": func(c *api.Commit) { c.Height++ },
		"first's commit": func(c *api.Commit) { *c = commitBy(first, 0, 0, 1, 2) },
		"of height 3": func(c *api.Commit) {
			x := b
			x.Height = 3
			*c = commitBy(x, 0, 0, 1, 2)
		},
		"of another block": func(c *api.Commit) {
			x := b
			x.Txs = nil
			*c = commitBy(x, 0, 0, 1, 2)
		},
		"of another height, the same hash": func(c *api.Commit) {
			h := c.Block
			*c = commitBy(api.Block{Height: 3}, 0)
			c.Block = h
			for _, by := range []int{0, 1, 2} {
				c.Votes = append(c.Votes, voteOf(t, voteBy(by, api.Precommit, 3, 0, h)))
			}
		},
		"none": func(c *api.Commit) { *c = api.Commit{} },
	} {
		c := good
		c.Votes = slices.Clone(good.Votes)
		change(&c)
		applies(t, what, n, b, c, api.ErrCommit)
	}
	applies(t, "more votes than are enough, of another round", n, b, commitBy(b, 7, 0, 1, 2, 3), api.OK)
	b = next(n, 4, 1<<31-1, []byte{}, []byte{1, 2, 3})
	applies(t, "transactions that are none, the last round", n, b, commitBy(b, 1<<31-1, 1, 2, 3), api.OK)
	if l := n.Receipts(3); len(l) != 2 || l[0].Err != api.ErrEnd || l[1].Err != api.ErrRlp {
		t.Errorf("receipts %v", l)
	}
}

// A node that has begun goes on with the height above. (P1904)
func TestApplyBegun(t *testing.T) {
	n := begun(t, 1)
	b := next(n, 4, 2, pay(0, 0, 1, 1))
	applies(t, "another block than its own", n, b, commitBy(b, 2, 0, 2, 3), api.OK)
	says(t, "timers of height 1", n, n.Timeout(node.Timer{Height: 1, Which: 1}), "")
	says(t, "nothing to be sent again", n, n.Timeout(node.Timer{Height: 2, Which: 4}), "", [2]int{0, 4})
	says(t, "height 2", n, n.Timeout(node.Timer{Height: 2, Which: 5}), "", [2]int{0, 1}, [2]int{0, 4})
	b = next(n, 4, 0)
	says(t, "proposal", n, n.Handle(0, proposalBy(2, 0, -1, b)), voted(1, 2, 0, 1, chain.Hash(b)))
	applies(t, "a block", n, b, commitBy(b, 0, 0, 2, 3), api.OK)
}

// Behind a node that has halted, and one that halts by this. (P1904)
func TestApplyHalted(t *testing.T) {
	for k := 1; k <= 6; k++ {
		d := fresh(t)
		n := opened(t, 4, 0, d)
		b := next(n, 4, 0, pay(0, 0, 1, 1))
		d.Arm([]disk.Fault{{At: k, Kind: disk.Full}})
		a, err := n.Apply(b, commitBy(b, 0, 1, 2, 3))
		if !nothing(a) || err != api.ErrFull || n.Err() != api.ErrFull || n.Height() != 0 {
			t.Errorf("step %d: %d, %d, %s", k, err, n.Err(), told(a))
		}
		applies(t, "halted", n, b, commitBy(b, 0, 1, 2, 3), api.ErrHalt)
		applies(t, "halted, and nothing", n, api.Block{}, api.Commit{}, api.ErrHalt)
	}
}
