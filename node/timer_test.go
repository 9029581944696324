package node_test

import (
	"fmt"
	"math"
	"testing"

	"conclave/api"
	"conclave/chain"
	"conclave/node"
)

// Timers of the current height. (P1902)
func TestTimeout(t *testing.T) {
	n := begun(t, 0)
	none := api.Hash{}
	says(t, "2 in step 1", n, n.Timeout(node.Timer{Height: 1, Which: 2}), "")
	says(t, "1 of round 1", n, n.Timeout(node.Timer{Height: 1, Round: 1, Which: 1}), "")
	says(t, "1 of round -1", n, n.Timeout(node.Timer{Height: 1, Round: -1, Which: 1}), "")
	says(t, "1", n, n.Timeout(node.Timer{Height: 1, Which: 1, Delay: -7}), voted(1, 1, 0, 0, none))
	says(t, "1 again", n, n.Timeout(node.Timer{Height: 1, Which: 1}), "")
	n.Handle(1, voteBy(1, 1, 1, 0, none))
	b := next(n, 4, 0)
	says(t, "a prevote of 2", n, n.Handle(1, voteBy(2, 1, 1, 0, chain.Hash(b))), "", [2]int{0, 2})
	says(t, "2", n, n.Timeout(node.Timer{Height: 1, Which: 2}), voted(2, 1, 0, 0, none))
	says(t, "2 again", n, n.Timeout(node.Timer{Height: 1, Which: 2}), "")
	n.Handle(1, voteBy(1, 2, 1, 0, none))
	says(t, "a precommit of 2", n, n.Handle(1, voteBy(2, 2, 1, 0, none)), "", [2]int{0, 3})
	says(t, "3", n, n.Timeout(node.Timer{Height: 1, Which: 3}), "", [2]int{1, 1})
	says(t, "3 again", n, n.Timeout(node.Timer{Height: 1, Which: 3}), "")
	says(t, "1 of round 0", n, n.Timeout(node.Timer{Height: 1, Which: 1}), "")
	says(t, "3 of round 1", n, n.Timeout(node.Timer{Height: 1, Round: 1, Which: 3}), "", [2]int{2, 1})
	says(t, "5", n, n.Timeout(node.Timer{Height: 1, Which: 5}), "")
	// Of round 3 it is the proposer.
	a := n.Timeout(node.Timer{Height: 1, Round: 2, Which: 3})
	b = next(n, 4, 3)
	says(t, "3 of round 2", n, a, "proposal(1 3 -1 by 0, 0 txs of 0 3) "+voted(1, 1, 3, 0, chain.Hash(b)), [2]int{3, 1})
}

// Timers of other heights, and kinds that are none. (P1902)
func TestTimeoutNothing(t *testing.T) {
	for _, start := range []bool{false, true} {
		n := of4(t, 0)
		if start {
			n.Start()
		}
		for _, h := range []uint64{0, 2, 3, math.MaxUint64} {
			for which := range 6 {
				says(t, fmt.Sprint("height ", h, " which ", which), n, n.Timeout(node.Timer{Height: h, Which: which}), "")
			}
		}
		for _, which := range []int{0, -1, 6, 7, math.MinInt, math.MaxInt} {
			says(t, fmt.Sprint("which ", which), n, n.Timeout(node.Timer{Height: 1, Which: which}), "")
		}
	}
	n := of4(t, 0)
	says(t, "5 of height 2", n, n.Timeout(node.Timer{Height: 2, Which: 5}), "")
	says(t, "5 of any round", n, n.Timeout(node.Timer{Height: 1, Round: 7, Which: 5}), "", [2]int{0, 1}, [2]int{0, 4})
	says(t, "Start", n, n.Start(), "")
}

// Delays grow by rounds, up to 1000 of them. (P1902)
func TestDelays(t *testing.T) {
	for _, round := range []int{1, 2, 998, 999, 1000, 1001, 5000, 1<<31 - 1} {
		n := begun(t, 0)
		if chain.Proposer(1, round, 4) == 0 {
			n = begun(t, 2)
		}
		none := api.Hash{}
		n.Handle(1, voteBy(1, 1, 1, round, none))
		says(t, "in round", n, n.Handle(1, voteBy(3, 1, 1, round, none)), "", [2]int{round, 1})
		a := n.Timeout(node.Timer{Height: 1, Round: round, Which: 1})
		n.Handle(1, voteBy(1, 2, 1, round, chain.Hash(next(n, 4, 0))))
		// Its own prevote and those of 1 and 3 are for none, so it precommits that.
		if len(a.Sends) != 2 || len(a.Timers) != 0 {
			t.Errorf("round %d: %s", round, told(a))
		}
		says(t, "precommit", n, n.Handle(1, voteBy(3, 2, 1, round, none)), "", [2]int{round, 3})
	}
}

// Which 2 has its delay, too. (P1902)
func TestDelayOfPrevotes(t *testing.T) {
	for _, round := range []int{0, 2, 6, 1000, 1001} {
		n := of4(t, 0)
		if chain.Proposer(1, round, 4) == 0 {
			n = of4(t, 2)
		}
		n.Start()
		n.Handle(1, voteBy(1, 1, 1, round, api.Hash{1}))
		n.Handle(1, voteBy(3, 1, 1, round, api.Hash{2}))
		a := n.Timeout(node.Timer{Height: 1, Round: round, Which: 1})
		if len(a.Timers) != 1 || a.Timers[0] != (node.Timer{Height: 1, Round: round, Which: 2, Delay: 10 + 10*min(round, 1000)}) {
			t.Errorf("round %d: %s", round, told(a))
		}
	}
}
