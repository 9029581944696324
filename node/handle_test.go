package node_test

import (
	"fmt"
	"math"
	"math/rand/v2"
	"slices"
	"testing"

	"conclave/api"
	"conclave/chain"
	"conclave/node"
)

// of4: the validator me of four, that has not begun; at height 1 the proposer of round 0 is 1.
func of4(t *testing.T, me int) *node.Node {
	t.Helper()
	return opened(t, 4, me, fresh(t))
}

// begun: the same, that has.
func begun(t *testing.T, me int) *node.Node {
	t.Helper()
	n := of4(t, me)
	n.Start()
	return n
}

// says: an Act is just that: what it sends, and timers by Round and Which.
func says(t *testing.T, what string, n *node.Node, a node.Act, sends string, timers ...[2]int) {
	t.Helper()
	got := ""
	for _, s := range a.Sends {
		if s.To != -1 {
			t.Errorf("%s: to %d", what, s.To)
		}
		got += named(s.Data) + " "
	}
	if sends != "" {
		sends += " "
	}
	if got != sends || a.Ahead != 0 {
		t.Errorf("%s: %s, not %s", what, told(a), sends)
	}
	if len(a.Timers) != len(timers) {
		t.Errorf("%s: timers %v, not %v", what, a.Timers, timers)
		return
	}
	for i, x := range a.Timers {
		delay := map[int]int{1: 30, 2: 10, 3: 10, 4: 25, 5: 5}[timers[i][1]] + 10*min(timers[i][0], 1000)
		if want := (node.Timer{Height: n.Height() + 1, Round: timers[i][0], Which: timers[i][1], Delay: delay}); x != want {
			t.Errorf("%s: timer %v, not %v", what, x, want)
		}
	}
}

func voted(kind int, height uint64, round, by int, h api.Hash) string {
	return fmt.Sprintf("vote(%d %d %d by %d for %x)", kind, height, round, by, h[:2])
}

// A height from its proposal to its commit, at a validator that does not propose. (P1902)
func TestHandle(t *testing.T) {
	n := of4(t, 0)
	says(t, "Start", n, n.Start(), "", [2]int{0, 1}, [2]int{0, 4})
	says(t, "Start again", n, n.Start(), "")
	b := next(n, 4, 0, pay(0, 0, 1, 3))
	h := chain.Hash(b)
	proposal := proposalBy(1, 0, -1, b)
	says(t, "proposal", n, n.Handle(1, proposal), voted(1, 1, 0, 0, h))
	says(t, "the same", n, n.Handle(2, proposal), "")
	says(t, "prevote of 1", n, n.Handle(1, voteBy(1, 1, 1, 0, h)), "")
	says(t, "its own prevote", n, n.Handle(2, voteBy(0, 1, 1, 0, h)), "")
	says(t, "prevote of 2", n, n.Handle(-5, voteBy(2, 1, 1, 0, h)), voted(2, 1, 0, 0, h))
	says(t, "precommit of 3", n, n.Handle(1, voteBy(3, 2, 1, 0, h)), "")
	says(t, "precommit for none", n, n.Handle(1, voteBy(2, 2, 1, 0, api.Hash{})), "", [2]int{0, 3})
	a := n.Handle(math.MaxInt, voteBy(2, 2, 1, 0, h))
	says(t, "precommit of 2", n, a, "", [2]int{0, 5})
	got, c, there := n.At(1)
	if n.Height() != 1 || !there || chain.Hash(got) != h || chain.CheckCommit(genesis(4), c) != api.OK {
		t.Fatalf("height %d: %v, %v", n.Height(), got, c)
	}
	if c.Height != 1 || c.Round != 0 || c.Block != h || len(c.Votes) != 3 || c.Votes[0].By != 0 || c.Votes[1].By != 2 || c.Votes[2].By != 3 {
		t.Errorf("commit %v", c)
	}
	if n.Root() == b.State || n.State().Balance(address(1)) != (api.Word{3}) {
		t.Error("not carried out")
	}
	says(t, "behind it", n, n.Handle(1, voteBy(1, 2, 1, 0, h)), "")
	says(t, "sent again", n, n.Timeout(node.Timer{Height: 2, Which: 4}), "", [2]int{0, 4})
}

// A commit has just as many votes as are enough, the first ones. (P1902)
func TestHandleQuorum(t *testing.T) {
	n := of4(t, 0)
	b := next(n, 4, 0)
	h := chain.Hash(b)
	for by := range 4 {
		says(t, "a precommit", n, n.Handle(0, voteBy(by, 2, 1, 0, h)), "")
	}
	n.Start()
	says(t, "the proposal", n, n.Handle(0, proposalBy(1, 0, -1, b)), "", [2]int{0, 5})
	_, c, _ := n.At(1)
	if len(c.Votes) != 3 || c.Votes[0].By != 0 || c.Votes[1].By != 1 || c.Votes[2].By != 2 {
		t.Errorf("commit %v", c)
	}
}

// A validator proposes, and goes on with a round that it was not there for. (P1902)
func TestHandleProposer(t *testing.T) {
	n := of4(t, 1)
	submitted(t, n, pay(0, 0, 1, 3))
	submitted(t, n, pay(1, 0, 1, 3))
	b := next(n, 4, 0, n.Pool()...)
	h := chain.Hash(b)
	a := n.Start()
	says(t, "Start", n, a, "proposal(1 0 -1 by 1, 2 txs of 1 0) "+voted(1, 1, 0, 1, h), [2]int{0, 1}, [2]int{0, 4})
	if p := proposalOf(t, a.Sends[0].Data); chain.Hash(p.Block) != h || chain.CheckProposal(genesis(4), p) != api.OK {
		t.Error("another proposal")
	}
	if len(n.Pool()) != 2 {
		t.Error("what is proposed is gone from the pool")
	}
	// Two others prevote for it, so it is locked; in round 4 it proposes the same block once more.
	says(t, "prevote", n, n.Handle(0, voteBy(0, 1, 1, 0, h)), "")
	says(t, "prevote", n, n.Handle(0, voteBy(2, 1, 1, 0, h)), voted(2, 1, 0, 1, h))
	says(t, "vote ahead", n, n.Handle(0, voteBy(2, 1, 1, 4, api.Hash{})), "")
	says(t, "vote ahead", n, n.Handle(0, voteBy(3, 1, 1, 4, api.Hash{})), "proposal(1 4 0 by 1, 2 txs of 1 0) "+voted(1, 1, 4, 1, h), [2]int{4, 1}, [2]int{4, 2})
	submitted(t, n, pay(2, 0, 1, 3))
	// Precommits of round 0 commit it, whatever the round is.
	says(t, "precommit", n, n.Handle(0, voteBy(3, 2, 1, 0, h)), "")
	says(t, "precommit", n, n.Handle(0, voteBy(0, 2, 1, 0, h)), "", [2]int{0, 5})
	if got, c, _ := n.At(1); chain.Hash(got) != h || c.Round != 0 || len(n.Pool()) != 1 {
		t.Errorf("block %v, commit %v, pool of %d", got, c, len(n.Pool()))
	}
}

// The machine is there ahead of Start, and gets what comes. (P1902)
func TestHandleAheadOfStart(t *testing.T) {
	n := of4(t, 0)
	b := next(n, 4, 0)
	h := chain.Hash(b)
	says(t, "proposal", n, n.Handle(1, proposalBy(1, 0, -1, b)), "")
	says(t, "prevote", n, n.Handle(1, voteBy(1, 1, 1, 0, h)), "")
	says(t, "prevote", n, n.Handle(1, voteBy(3, 1, 1, 0, h)), "")
	for which := 1; which <= 3; which++ {
		says(t, "timer", n, n.Timeout(node.Timer{Height: 1, Which: which}), "")
	}
	all := named(proposalBy(1, 0, -1, b)) + " " + voted(1, 1, 0, 1, h) + " " + voted(1, 1, 0, 3, h)
	says(t, "sent again", n, n.Timeout(node.Timer{Height: 1, Which: 4}), all, [2]int{0, 4})
	says(t, "Start", n, n.Start(), voted(1, 1, 0, 0, h)+" "+voted(2, 1, 0, 0, h), [2]int{0, 1}, [2]int{0, 4})
	all += " " + voted(1, 1, 0, 0, h) + " " + voted(2, 1, 0, 0, h)
	says(t, "sent again", n, n.Timeout(node.Timer{Height: 1, Which: 4}), all, [2]int{0, 4})

	// So it is of each height: behind a commit what comes is kept, and nothing is said till the timer.
	n.Handle(1, voteBy(1, 2, 1, 0, h))
	says(t, "commit", n, n.Handle(1, voteBy(2, 2, 1, 0, h)), "", [2]int{0, 5})
	b = next(n, 4, 0)
	says(t, "proposal of 2", n, n.Handle(1, proposalBy(2, 0, -1, b)), "")
	says(t, "timer 5", n, n.Timeout(node.Timer{Height: 2, Which: 5}), voted(1, 2, 0, 0, chain.Hash(b)), [2]int{0, 1}, [2]int{0, 4})
	says(t, "timer 5", n, n.Timeout(node.Timer{Height: 2, Which: 5}), "")
	says(t, "Start", n, n.Start(), "")
}

// What a machine tells is done in the order in which it was told. (P1902)
func TestHandleOrder(t *testing.T) {
	n := of4(t, 1)
	for _, by := range []int{0, 2, 3} {
		n.Handle(1, voteBy(by, 1, 1, 0, api.Hash{byte(by)}))
	}
	h := chain.Hash(next(n, 4, 0))
	// Its proposal brings its prevote and a timer 2, which stand behind what Start told.
	says(t, "Start", n, n.Start(), "proposal(1 0 -1 by 1, 0 txs of 1 0) "+voted(1, 1, 0, 1, h), [2]int{0, 1}, [2]int{0, 4}, [2]int{0, 2})
}

// A block that has enough ahead of Start is committed by that. (P1902)
func TestHandleCommitsAtStart(t *testing.T) {
	n := of4(t, 0)
	b := next(n, 4, 0)
	n.Handle(1, proposalBy(1, 0, -1, b))
	for by := 1; by < 4; by++ {
		says(t, "precommit", n, n.Handle(1, voteBy(by, 2, 1, 0, chain.Hash(b))), "")
	}
	a := n.Start()
	if n.Height() != 1 || len(a.Sends) != 0 || a.Timers[len(a.Timers)-1] != (node.Timer{Height: 2, Which: 5, Delay: 5}) {
		t.Errorf("height %d: %s", n.Height(), told(a))
	}
}

// Blocks that do not follow get no vote; the message is one to be sent again nevertheless. (P1902)
func TestHandleFollows(t *testing.T) {
	first := of4(t, 0)
	root := first.Root()
	good := next(first, 4, 0)
	first.Handle(1, proposalBy(1, 0, -1, good))
	first.Start()
	first.Handle(1, voteBy(1, 2, 1, 0, chain.Hash(good)))
	first.Handle(1, voteBy(2, 2, 1, 0, chain.Hash(good)))
	first.Handle(1, voteBy(3, 2, 1, 0, chain.Hash(good)))
	if first.Height() != 1 {
		t.Fatal("height")
	}
	blocks := map[string]func(b *api.Block){
		"it follows":              func(b *api.Block) {},
		"of another round":        func(b *api.Block) { b.Round, b.Proposer = 5, 3 },
		"of a round far above":    func(b *api.Block) { b.Round, b.Proposer = 1<<31-1, 1 },
		"of transactions, no txs": func(b *api.Block) { b.Txs = [][]byte{{}, {1, 2}} },
		"no: Prev":                func(b *api.Block) { b.Prev[0]++ },
		"no: zero Prev":           func(b *api.Block) { b.Prev = api.Hash{} },
		"no: State":               func(b *api.Block) { b.State[31]++ },
		"no: zero State":          func(b *api.Block) { b.State = api.Hash{} },
		"no: Proposer":            func(b *api.Block) { b.Proposer = 3 },
		"no: far Proposer":        func(b *api.Block) { b.Proposer = 6 },
		"no: Round":               func(b *api.Block) { b.Round = 1 },
	}
	for what, change := range blocks {
		n := opened(t, 4, 0, fresh(t))
		n.Apply(good, commitBy(good, 0, 1, 2, 3))
		n.Start()
		b := next(n, 4, 0)
		change(&b)
		want := api.Hash{}
		if what[:3] != "no:" {
			want = chain.Hash(b)
		}
		proposal := proposalBy(2, 0, -1, b)
		says(t, what, n, n.Handle(1, proposal), voted(1, 2, 0, 0, want))
		says(t, what, n, n.Timeout(node.Timer{Height: 2, Which: 4}), named(proposal)+" "+voted(1, 2, 0, 0, want), [2]int{0, 4})
	}
	if root != good.State {
		t.Error("root")
	}
}

// Messages of heights above tell just that, whether they hold or not; those of heights below nothing. (P1902)
func TestHandleAhead(t *testing.T) {
	for _, start := range []bool{false, true} {
		n := of4(t, 0)
		if start {
			n.Start()
		}
		for _, h := range []uint64{2, 3, 1000, math.MaxUint64} {
			b := api.Block{Height: h}
			v := api.Vote{Kind: 7, Height: h, Round: 5, By: 99}
			p := api.Proposal{Height: h, Round: 3, Valid: 9, By: 12, Block: b}
			for _, data := range [][]byte{voteBy(1, 1, h, 0, api.Hash{}), voteMessage(v), proposalBy(1, 0, -1, b), proposalMessage(p)} {
				if a := n.Handle(1, data); a.Ahead != h || len(a.Sends) != 0 || len(a.Timers) != 0 {
					t.Errorf("height %d: %s", h, told(a))
				}
			}
			p.Height, p.Block.Height = 1, h // whose own height is the current one
			if a := n.Handle(1, proposalMessage(p)); !nothing(a) {
				t.Errorf("a block's height %d: %s", h, told(a))
			}
		}
		for _, data := range [][]byte{voteBy(1, 1, 0, 0, api.Hash{}), voteMessage(api.Vote{})} {
			if a := n.Handle(1, data); !nothing(a) {
				t.Errorf("below: %s", told(a))
			}
		}
		says(t, "nothing is kept", n, n.Timeout(node.Timer{Height: 1, Which: 4}), "", [2]int{0, 4})
	}
}

// Messages that do not hold, and bytes that are none. (P1902)
func TestHandleNothing(t *testing.T) {
	n := begun(t, 0)
	b := next(n, 4, 0)
	vote, proposal := voteBy(1, 1, 1, 0, chain.Hash(b)), proposalBy(1, 0, -1, b)
	var wrong [][]byte
	for kind := range 256 {
		if kind != node.KVote {
			wrong = append(wrong, append([]byte{byte(kind)}, vote[1:]...))
		}
		if kind != node.KProposal {
			wrong = append(wrong, append([]byte{byte(kind)}, proposal[1:]...))
		}
		wrong = append(wrong, []byte{byte(kind)})
	}
	v := voteOf(t, vote)
	for _, change := range []func(v *api.Vote){
		func(v *api.Vote) { v.Sig[9] ^= 1 }, func(v *api.Vote) { v.By = 2 }, func(v *api.Vote) { v.By = 4 },
		func(v *api.Vote) { v.Round = 1 }, func(v *api.Vote) { v.Kind = 2 }, func(v *api.Vote) { v.Kind = 3 }, func(v *api.Vote) { v.Block[0]++ },
	} {
		x := v
		change(&x)
		wrong = append(wrong, voteMessage(x))
	}
	p := proposalOf(t, proposal)
	for _, change := range []func(p *api.Proposal){
		func(p *api.Proposal) { p.Sig[9] ^= 1 }, func(p *api.Proposal) { p.By = 2 }, func(p *api.Proposal) { p.By = 17 },
		func(p *api.Proposal) { p.Round = 4 }, func(p *api.Proposal) { p.Valid = 0 }, func(p *api.Proposal) { p.Block.State[0]++ },
	} {
		x := p
		change(&x)
		wrong = append(wrong, proposalMessage(x))
	}
	// One who is not the round's proposer, and one who proposes for a Valid that is none.
	wrong = append(wrong, proposalBy(2, 0, -1, b), proposalBy(1, 0, 0, b))
	wrong = append(wrong, nil, []byte{}, append(slices.Clone(vote), 0), append(slices.Clone(proposal), 0), vote[:len(vote)-1], proposal[:60])
	wrong = append(wrong, append([]byte{node.KVote}, make([]byte, 1<<20)...))
	for _, data := range wrong {
		for _, from := range []int{1, -1, math.MinInt} {
			if a := n.Handle(from, data); !nothing(a) {
				t.Fatalf("%s: %s", named(data), told(a))
			}
		}
	}
	says(t, "nothing is kept", n, n.Timeout(node.Timer{Height: 1, Which: 4}), "", [2]int{0, 4})
	says(t, "what holds", n, n.Handle(3, proposal), voted(1, 1, 0, 0, chain.Hash(b)))
}

// Any bytes from anybody. (P1902)
func TestHandleAnything(t *testing.T) {
	n := begun(t, 0)
	r := rand.New(rand.NewPCG(19, 1))
	b := next(n, 4, 0, pay(0, 0, 1, 1))
	good := [][]byte{voteBy(1, 2, 1, 0, chain.Hash(b)), proposalBy(1, 0, -1, b), append([]byte{node.KTx}, pay(0, 0, 1, 1)...)}
	for range 3000 {
		data := make([]byte, r.IntN(200))
		for i := range data {
			data[i] = byte(r.IntN(256))
		}
		if r.IntN(2) == 0 {
			data = slices.Clone(good[r.IntN(3)])
			data[r.IntN(len(data))] ^= byte(1 + r.IntN(255))
		} else if len(data) > 0 {
			data[0] %= 5
		}
		if a := n.Handle(r.IntN(9)-2, data); len(a.Sends) != 0 || len(a.Timers) != 0 {
			t.Fatalf("%x: %s", data, told(a))
		}
	}
	if n.Height() != 0 || len(n.Pool()) != 0 || n.Err() != api.OK {
		t.Error("something has changed")
	}
}

// Messages that are sent again: each once, in the order in which they came, the node's own too, no more than 512. (P1902)
func TestSentAgain(t *testing.T) {
	n := begun(t, 0)
	b := next(n, 4, 0)
	h := chain.Hash(b)
	proposal := proposalBy(1, 0, -1, b)
	n.Handle(3, voteBy(3, 1, 1, 0, h))
	n.Handle(1, proposal)
	n.Handle(2, proposal)
	n.Handle(3, voteBy(3, 1, 1, 0, h))
	n.Handle(3, voteBy(3, 1, 1, 0, api.Hash{}))
	all := []string{voted(1, 1, 0, 3, h), named(proposal), voted(1, 1, 0, 0, h), voted(1, 1, 0, 3, api.Hash{})}
	again := func(what string) {
		t.Helper()
		sends := ""
		for i, s := range all {
			if i < 512 {
				sends += " " + s
			}
		}
		says(t, what, n, n.Timeout(node.Timer{Height: 1, Round: 9, Which: 4, Delay: 3}), sends[1:], [2]int{0, 4})
	}
	again("a few")
	again("the same")
	// A second proposal of the round is none for the machine, but holds.
	second := b
	second.Txs = [][]byte{{1}}
	n.Handle(1, proposalBy(1, 0, -1, second))
	all = append(all, named(proposalBy(1, 0, -1, second)))
	again("a second proposal")
	for round := 1; len(all) < 511; round++ {
		v := voteBy(3, 2, 1, round, h)
		n.Handle(3, v)
		all = append(all, voted(2, 1, round, 3, h))
	}
	again("511")
	for by := 2; by < 4; by++ {
		n.Handle(3, voteBy(by, 1, 1, 0, chain.Hash(second)))
		all = append(all, voted(1, 1, 0, by, chain.Hash(second)))
	}
	if len(all) != 513 {
		t.Fatal(len(all))
	}
	again("513")
	n.Timeout(node.Timer{Height: 1, Which: 1})
	again("513 still")
}

// A transaction is taken as by Submit. (P1902, P1903)
func TestHandleTx(t *testing.T) {
	n := of4(t, 0)
	b := pay(0, 0, 1, 1)
	message := append([]byte{node.KTx}, b...)
	if a := n.Handle(2, message); !alike(a, node.Act{Sends: []node.Send{{To: -1, Data: message}}}) {
		t.Errorf("a transaction: %s", told(a))
	}
	if a := n.Handle(2, message); !nothing(a) {
		t.Errorf("the same: %s", told(a))
	}
	if l := n.Pool(); len(l) != 1 || !slices.Equal(l[0], b) {
		t.Errorf("pool %v", l)
	}
	if a := n.Handle(2, append([]byte{node.KTx}, signed(0, api.Tx{Gas: 1})...)); !nothing(a) || n.Err() != api.OK {
		t.Errorf("one that does not hold: %s", told(a))
	}
	says(t, "not sent again", n, n.Timeout(node.Timer{Height: 1, Which: 4}), "", [2]int{0, 4})
}
