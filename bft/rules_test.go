package bft_test

import (
	"fmt"
	"math/rand/v2"
	"slices"
	"testing"

	"conclave/api"
	"conclave/bft"
)

// Of so many validators: how many votes are enough, and how many are some.
func quorum(n int) int { return 2*n/3 + 1 }
func some(n int) int   { return n/3 + 1 }

// other: a validator that does not propose in that round, if there is one.
func other(n, round int) int { return (tall + round + 1) % n }

// sets: of so many validators, some with which to try: the first, the last, and drawn ones, each in an order.
func sets(n, many int) [][]int {
	r := rand.New(rand.NewPCG(18, uint64(n)))
	return [][]int{below(n)[:many], below(n)[n-many:], r.Perm(n)[:many], r.Perm(n)[:many]}
}

// each: for each number of validators from 1 to MaxNodes, and of so many of them some sets: the last of them has yet to come.
func each(t *testing.T, many func(n int) int, try func(t *testing.T, what string, n int, few []int, last int)) {
	for n := 1; n <= api.MaxNodes; n++ {
		for _, set := range sets(n, many(n)) {
			end := len(set) - 1
			try(t, fmt.Sprint("n ", n, ", ", set), n, set[:end], set[end])
		}
	}
}

// kinds: of what is told, without what it says.
func kinds(told []bft.Out) (l []int) {
	for _, o := range told {
		l = append(l, o.Kind)
	}
	return l
}

// untimed: without timers.
func untimed(told []bft.Out) []bft.Out {
	return slices.DeleteFunc(told, func(o bft.Out) bool { return o.Kind == bft.Timer })
}

// Rule 1: just too few and just enough precommits, of the machine's round, of one below it, and of one above it, the proposal ahead of them or behind.
func TestCommits(t *testing.T) {
	each(t, quorum, func(t *testing.T, what string, n int, few []int, last int) {
		for _, own := range []int{0, 2, 4} {
			m := at(t, n, other(n, own), own)
			m.Propose(proposal(n, 2, -1, 1))
			votes(m, precommit, 2, 1, few...)
			if m.State().Done {
				t.Fatalf("%s: done by too few", what)
			}
			votes(m, precommit, 2, 2, below(n)...) // for another block
			votes(m, precommit, 2, 0, below(n)...)
			votes(m, precommit, 1, 1, below(n)...)
			votes(m, prevote, 2, 1, below(n)...)
			votes(m, precommit, 2, 1, few...)
			if m.State().Done {
				t.Fatalf("%s: done by votes for another block, or of another round or kind", what)
			}
			says(t, what, m.Vote(precommit(2, last, 1)), "commit 2 for b1 block b1")
			if !m.State().Done {
				t.Fatalf("%s: not done", what)
			}
			m = at(t, n, other(n, own), own)
			votes(m, precommit, 2, 1, few...)
			votes(m, precommit, 2, 1, last)
			if m.State().Done {
				t.Fatalf("%s: done without the proposal", what)
			}
			says(t, what+", then the proposal", m.Propose(proposal(n, 2, -1, 1)), "commit 2 for b1 block b1")
		}
	})
}

// Rule 1: a block that is not right is never committed, and none is by votes for no block.
func TestCommitsNot(t *testing.T) {
	for n := 1; n <= api.MaxNodes; n++ {
		m := madeBy(t, n, 0, func(b api.Block) bool { return b.Proposer != 1 })
		m.Start()
		m.Propose(proposal(n, 0, -1, 1))
		votes(m, precommit, 0, 1, below(n)...)
		votes(m, precommit, 0, 0, below(n)...)
		votes(m, precommit, 0, 2, below(n)...)
		if m.State().Done {
			t.Errorf("n %d: done", n)
		}
		m.Propose(proposal(n, 3, -1, 2))
		if m.State().Done {
			t.Errorf("n %d: done by another round's precommits", n)
		}
	}
}

// Rule 1: the lowest round that there is, in whatever order they came to be so; and just once.
func TestCommitsLowest(t *testing.T) {
	for _, order := range [][]int{{3, 5, 8}, {8, 5, 3}, {5, 3, 8}, {5, 8, 3}, {3, 8, 5}, {8, 3, 5}} {
		m := made(t, 4, 1)
		for _, round := range order {
			votes(m, precommit, round, round, 0, 2, 3)
			m.Propose(proposal(4, round, -1, round))
		}
		says(t, "Start", m.Start(), "timer 0 which 1; commit 3 for b3 block b3")
		says(t, "a vote more", m.Vote(precommit(5, 1, 5)), "")
		says(t, "another round", votes(m, precommit, 2, 2, 0, 2, 3), "")
		says(t, "another round", m.Propose(proposal(4, 2, -1, 2)), "")
	}
}

// Rule 2: just too few and just enough validators of whom a proposal or a vote of a higher round is kept; each counts once.
func TestSkips(t *testing.T) {
	each(t, some, func(t *testing.T, what string, n int, few []int, last int) {
		m := at(t, n, other(n, 9), 3)
		for i, by := range few {
			switch {
			case (tall+9)%n == by:
				says(t, what, m.Propose(proposal(n, 9, 4, 1)), "")
			case i%3 == 0:
				says(t, what, votes(m, prevote, 9, i%2, by), "")
			case i%3 == 1:
				says(t, what, votes(m, precommit, 9, i%2, by), "")
			}
			votes(m, prevote, 9, 1, by)
			votes(m, prevote, 9, 2, by)
			votes(m, precommit, 9, 0, by)
		}
		if n > 2 { // below that one vote is some
			votes(m, prevote, 8, 1, last)
			votes(m, prevote, 10, 1, last)
		}
		stands(t, what+", too few", m, "round 3 step 1")
		want := "timer 9 which 1"
		if n == 1 {
			want = "propose 9 valid -1; " + want
		}
		says(t, what, m.Vote(prevote(9, last, 3)), want)
		stands(t, what, m, "round 9 step 1")
		says(t, what+", again", m.Vote(prevote(9, last, 3)), "")
	})
}

// Rule 2: a proposal is the last one that lacks.
func TestSkipsByProposal(t *testing.T) {
	for n := 1; n <= api.MaxNodes; n++ {
		proposer := (tall + 9) % n
		m := at(t, n, other(n, 9), 0)
		few := slices.DeleteFunc(below(n), func(by int) bool { return by == proposer })[:some(n)-1]
		votes(m, prevote, 9, 2, few...)
		stands(t, fmt.Sprint("n ", n, ", too few"), m, "round 0 step 1")
		want := "timer 9 which 1; prevote 9 for b1"
		if n == 1 {
			want = "propose 9 valid -1; " + want
		}
		says(t, fmt.Sprint("n ", n), m.Propose(proposal(n, 9, -1, 1)), want)
		m = at(t, n, other(n, 9), 0)
		p := proposal(n, 9, -1, 1)
		p.Block.Height++
		votes(m, prevote, 9, 2, few...)
		says(t, fmt.Sprint("n ", n, ", one that is not kept"), m.Propose(p), "")
		m = at(t, n, other(n, 9), 0)
		votes(m, prevote, 9, 2, few...)
		m.Propose(proposal(n, 8, -1, 1))
		if m.State().Round == 9 {
			t.Errorf("n %d: by a proposal of another round", n)
		}
	}
}

// Rule 2: the highest such, not one of the machine's own round or below, and not by different rounds together.
func TestSkipsHighest(t *testing.T) {
	for _, order := range [][]int{{2, 6, 7}, {7, 6, 2}, {6, 7, 2}, {6, 2, 7}, {2, 7, 6}, {7, 2, 6}} {
		m := made(t, 4, 3)
		for _, round := range order {
			votes(m, prevote, round, 1, 0, 1)
		}
		m.Vote(prevote(9, 0, 1))
		m.Vote(prevote(10, 1, 1))
		m.Vote(prevote(11, 2, 1))
		told := m.Start()
		says(t, "Start", told, "propose 0 valid -1; timer 0 which 1; timer 7 which 1; timer 7 which 3")
		stands(t, "Start", m, "round 7 step 1")
		says(t, "of its own round", votes(m, prevote, 7, 0, 2), "")
		says(t, "of lower ones", append(votes(m, prevote, 6, 0, 0, 1, 2), votes(m, precommit, 0, 0, 0, 1, 2, 3)...), "")
		says(t, "of a higher one", m.Vote(prevote(11, 3, 1)), "timer 11 which 1")
		says(t, "of one between", votes(m, prevote, 10, 0, 0, 2, 3), "")
	}
}

// Rule 3: a proposal without Valid: it is prevoted at once, with its hash if its block is right, at step 1 alone.
func TestPrevotes(t *testing.T) {
	for n := 1; n <= api.MaxNodes; n++ {
		what := fmt.Sprint("n ", n)
		m := at(t, n, other(n, 2), 2)
		says(t, what+", of a lower round", m.Propose(proposal(n, 1, -1, 1)), "")
		says(t, what, m.Propose(proposal(n, 2, -1, 1)), "prevote 2 for b1")
		stands(t, what, m, "round 2 step 2")
		says(t, what+", again", m.Propose(proposal(n, 2, -1, 1)), "")
		m = madeBy(t, n, 0, func(b api.Block) bool { return b.Proposer != 1 })
		m.Start()
		says(t, what+", not right", m.Propose(proposal(n, 0, -1, 1)), "prevote 0")
		m = at(t, n, 0, 0)
		m.Timeout(1, 0)
		says(t, what+", too late", m.Propose(proposal(n, 0, -1, 1)), "")
		m.Timeout(2, 0)
		says(t, what+", too late", m.Propose(proposal(n, 0, -1, 1)), "")
	}
}

// Rule 3: a proposal with Valid waits for enough prevotes of that round for its hash, of that kind, that round and that hash.
func TestPrevotesValid(t *testing.T) {
	each(t, quorum, func(t *testing.T, what string, n int, few []int, last int) {
		for _, valid := range []int{0, 1, 2} {
			m := at(t, n, other(n, 3), 3)
			votes(m, prevote, valid, 1, few...)
			says(t, what+", the proposal", untimed(m.Propose(proposal(n, 3, valid, 1))), "")
			votes(m, prevote, valid, 2, below(n)...)
			votes(m, prevote, valid, 0, below(n)...)
			votes(m, precommit, valid, 2, below(n)...)
			votes(m, prevote, (valid+1)%3, 1, below(n)...)
			stands(t, what+", too few", m, "round 3 step 1")
			says(t, what, m.Vote(prevote(valid, last, 1)), "prevote 3 for b1")
			m = at(t, n, other(n, 3), 3)
			votes(m, prevote, valid, 1, append(few, last)...)
			says(t, what+", the proposal last", m.Propose(proposal(n, 3, valid, 1)), "prevote 3 for b1")
			m = madeBy(t, n, other(n, 3), func(b api.Block) bool { return b.Proposer != 1 })
			m.Start()
			for round := range 3 {
				m.Timeout(3, round)
			}
			votes(m, prevote, valid, 1, append(few, last)...)
			says(t, what+", not right", m.Propose(proposal(n, 3, valid, 1)), "prevote 3")
		}
	})
}

// Rule 3: who is locked prevotes its own block, and another one just if that was valid in no lower round than the lock's.
func TestPrevotesLocked(t *testing.T) {
	for n := 1; n <= api.MaxNodes; n++ {
		for lock := range 4 {
			for valid := -1; valid < 6; valid++ {
				for tag := 1; tag <= 2; tag++ {
					m := at(t, n, other(n, 6), lock)
					m.Propose(proposal(n, lock, -1, 1))
					votes(m, prevote, lock, 1, below(n)...)
					stands(t, "locked", m, fmt.Sprintf("round %d step 3 locked %d on b1 valid %d is b1", lock, lock, lock))
					if valid >= 0 {
						votes(m, prevote, valid, tag, below(n)...)
					}
					for m.State().Round < 6 {
						m.Timeout(3, m.State().Round)
					}
					want := "prevote 6 for b1"
					if tag == 2 {
						want = "prevote 6"
						if valid >= lock {
							want = "prevote 6 for b2"
						}
					}
					what := fmt.Sprint("n ", n, ", locked in ", lock, " on b1, b", tag, " valid in ", valid)
					says(t, what, m.Propose(proposal(n, 6, valid, tag)), want)
				}
			}
		}
	}
}

// Rule 4: just too few and just enough prevotes: at step 2 the machine locks, at step 3 the block is just valid, at step 1 it waits.
func TestLocks(t *testing.T) {
	each(t, quorum, func(t *testing.T, what string, n int, few []int, last int) {
		m := at(t, n, other(n, 2), 2)
		m.Propose(proposal(n, 2, -1, 1))
		votes(m, prevote, 2, 1, few...)
		votes(m, prevote, 2, 2, below(n)...)
		votes(m, prevote, 1, 1, below(n)...)
		votes(m, precommit, 2, 2, below(n)...)
		stands(t, what+", too few", m, "round 2 step 2")
		says(t, what, m.Vote(prevote(2, last, 1)), "precommit 2 for b1")
		stands(t, what, m, "round 2 step 3 locked 2 on b1 valid 2 is b1")
		m = at(t, n, other(n, 2), 2)
		m.Timeout(1, 2)
		m.Timeout(2, 2)
		m.Propose(proposal(n, 2, -1, 1))
		votes(m, prevote, 2, 1, few...)
		stands(t, what+", too few at step 3", m, "round 2 step 3")
		says(t, what+", at step 3", m.Vote(prevote(2, last, 1)), "")
		stands(t, what+", at step 3", m, "round 2 step 3 valid 2 is b1")
		m = at(t, n, other(n, 2), 2)
		votes(m, prevote, 2, 1, append(few, last)...)
		stands(t, what+", without the proposal", m, "round 2 step 1")
		says(t, what+", the proposal", m.Propose(proposal(n, 2, -1, 1)), "prevote 2 for b1; precommit 2 for b1")
		stands(t, what+", the proposal", m, "round 2 step 3 locked 2 on b1 valid 2 is b1")
	})
}

// Rule 4: not of a block that is not right, not of another round, and not at step 1.
func TestLocksNot(t *testing.T) {
	m := madeBy(t, 4, 1, func(b api.Block) bool { return b.Proposer != 1 })
	m.Start()
	m.Propose(proposal(4, 0, -1, 1))
	says(t, "not right", votes(m, prevote, 0, 1, 0, 1, 2, 3), "timer 0 which 2")
	m.Timeout(2, 0)
	stands(t, "not right", m, "round 0 step 3")
	m.Timeout(3, 0)
	m.Propose(proposal(4, 1, -1, 2))
	m.Timeout(3, 1)
	says(t, "of another round", votes(m, prevote, 1, 2, 0, 1, 2), "")
	stands(t, "of another round", m, "round 2 step 1")
	m.Timeout(3, 2)
	says(t, "at step 1", m.Propose(proposal(4, 3, 2, 3)), "")
	says(t, "at step 1", votes(m, prevote, 3, 3, 0, 1, 2), "")
	stands(t, "at step 1", m, "round 3 step 1")
	says(t, "at step 2", m.Timeout(1, 3), "prevote 3; precommit 3 for b3")
	stands(t, "at step 2", m, "round 3 step 3 locked 3 on b3 valid 3 is b3")
}

// Rule 4: it fits once a round, and in a later round again; a lock stays where there is none anew.
func TestLocksOnce(t *testing.T) {
	m := at(t, 4, 1, 0)
	m.Propose(proposal(4, 0, -1, 1))
	votes(m, prevote, 0, 1, 0, 1, 2)
	says(t, "one vote more", m.Vote(prevote(0, 3, 1)), "")
	m.Timeout(3, 0)
	stands(t, "the next round", m, "round 1 step 1 locked 0 on b1 valid 0 is b1")
	says(t, "the same block", m.Propose(proposal(4, 1, -1, 1)), "prevote 1 for b1")
	says(t, "its prevotes", votes(m, prevote, 1, 1, 3, 2, 1, 0), "precommit 1 for b1")
	stands(t, "its prevotes", m, "round 1 step 3 locked 1 on b1 valid 1 is b1")
	m.Timeout(3, 1)
	says(t, "another block", m.Propose(proposal(4, 2, -1, 2)), "prevote 2")
	says(t, "its prevotes", votes(m, prevote, 2, 2, 3, 2, 0), "precommit 2 for b2")
	stands(t, "its prevotes", m, "round 2 step 3 locked 2 on b2 valid 2 is b2")
	m.Timeout(3, 2)
	m.Timeout(1, 3)
	m.Timeout(2, 3)
	m.Propose(proposal(4, 3, -1, 3))
	says(t, "at step 3", votes(m, prevote, 3, 3, 3, 2, 0), "")
	stands(t, "at step 3", m, "round 3 step 3 locked 2 on b2 valid 3 is b3")
}

// Rule 5: just too few and just enough prevotes for no block, at step 2 alone.
func TestPrecommitsNone(t *testing.T) {
	each(t, quorum, func(t *testing.T, what string, n int, few []int, last int) {
		m := at(t, n, other(n, 2), 2)
		m.Timeout(1, 2)
		votes(m, prevote, 2, 0, few...)
		votes(m, prevote, 1, 0, below(n)...)
		votes(m, precommit, 2, 0, few...)
		votes(m, prevote, 2, 2, below(n)...)
		stands(t, what+", too few", m, "round 2 step 2")
		says(t, what, m.Vote(prevote(2, last, 0)), "precommit 2")
		stands(t, what, m, "round 2 step 3")
		m = at(t, n, other(n, 2), 2)
		says(t, what+", at step 1", votes(m, prevote, 2, 0, append(few, last)...), "")
		says(t, what+", at step 2", m.Timeout(1, 2), "prevote 2; precommit 2")
		m.Timeout(3, 2)
		m.Timeout(1, 3)
		m.Timeout(2, 3)
		says(t, what+", at step 3", votes(m, prevote, 3, 0, append(few, last)...), "")
	})
}

// Rules 4 and 5: a block's prevotes go ahead of those for none, where there are enough of both.
func TestLocksAheadOfNone(t *testing.T) {
	m := at(t, 4, 1, 0)
	votes(m, prevote, 0, 0, 0, 1, 2)
	votes(m, prevote, 0, 1, 0, 1, 2)
	says(t, "Propose", m.Propose(proposal(4, 0, -1, 1)), "prevote 0 for b1; precommit 0 for b1")
	stands(t, "Propose", m, "round 0 step 3 locked 0 on b1 valid 0 is b1")
}

// Rule 6: just too few and just enough validators with a prevote or a precommit of the round, at step 2 alone, once a round.
func TestWaitsForPrevotes(t *testing.T) {
	each(t, quorum, func(t *testing.T, what string, n int, few []int, last int) {
		for _, kind := range []func(round, by, tag int) api.Vote{prevote, precommit} {
			m := at(t, n, other(n, 2), 2)
			m.Timeout(1, 2)
			for i, by := range few {
				votes(m, []func(round, by, tag int) api.Vote{prevote, precommit}[i%2], 2, 1+i%3, by)
				votes(m, prevote, 2, 4, by)
			}
			votes(m, prevote, 1, 1, below(n)...)
			votes(m, precommit, 1, 1, below(n)...)
			m.Propose(proposal(n, 2, 0, 9)) // it counts of a higher round alone
			stands(t, what+", too few", m, "round 2 step 2")
			told := m.Vote(kind(2, last, 5))
			want := "timer 2 which 2"
			if n == 1 && kind(0, 0, 0).Kind == api.Precommit {
				want += "; timer 2 which 3" // one is enough for both
			}
			says(t, what, told, want)
			stands(t, what, m, "round 2 step 2")
			says(t, what+", again", untimed(votes(m, prevote, 2, 6, below(n)...)), "")
			says(t, what+", again", votes(m, prevote, 2, 7, below(n)...), "")
			m.Timeout(3, 2)
			votes(m, prevote, 3, 1, append(few, last)...)
			stands(t, what+", at step 1", m, "round 3 step 1")
			says(t, what+", the next round", m.Timeout(1, 3), "prevote 3; timer 3 which 2")
		}
	})
}

// Rule 7: just too few and just enough validators with a precommit of the round, at each step, once a round.
func TestWaitsForPrecommits(t *testing.T) {
	each(t, quorum, func(t *testing.T, what string, n int, few []int, last int) {
		for step := 1; step <= 3; step++ {
			m := at(t, n, other(n, 2), 2)
			for s := 1; s < step; s++ {
				m.Timeout(s, 2)
			}
			for i, by := range few {
				votes(m, precommit, 2, i%3, by)
				votes(m, precommit, 2, 4, by)
			}
			votes(m, precommit, 1, 1, below(n)...)
			votes(m, prevote, 2, 4, below(n)...)
			stands(t, what+", too few", m, fmt.Sprint("round 2 step ", step))
			says(t, what, m.Vote(precommit(2, last, 5)), "timer 2 which 3")
			stands(t, what, m, fmt.Sprint("round 2 step ", step))
			says(t, what+", again", votes(m, precommit, 2, 6, below(n)...), "")
			m.Timeout(3, 2)
			says(t, what+", the next round", votes(m, precommit, 3, 1, few...), "")
			says(t, what+", the next round", m.Vote(precommit(3, last, 1)), "timer 3 which 3")
		}
	})
}

// Rules 6 and 7: anything of a higher round counts, too, wherever: a proposal, a prevote, a precommit; each of another round, so that none begins.
func TestWaitsAhead(t *testing.T) {
	for n := 3; n <= api.MaxNodes; n++ {
		for step := 1; step <= 3; step++ {
			for last := range n {
				m := at(t, n, 0, 2)
				for s := 1; s < step; s++ {
					m.Timeout(s, 2)
				}
				what := fmt.Sprint("n ", n, ", step ", step, ", last ", last)
				set := slices.DeleteFunc(below(n), func(by int) bool { return by == last })[:quorum(n)-1]
				var told []bft.Out
				for i, by := range set {
					told = append(told, goesOn(m, n, by, i)...)
				}
				says(t, what+", too few", told, "")
				want := "timer 2 which 3"
				if step == 2 {
					want = "timer 2 which 2; " + want
				}
				says(t, what, goesOn(m, n, last, 2-last%3), want)
				stands(t, what, m, fmt.Sprint("round 2 step ", step))
				says(t, what+", again", goesOn(m, n, last, 1+last%3), "")
			}
		}
	}
}

// goesOn: something of a validator comes, of a round above 2 in which there is nothing of others.
func goesOn(m *bft.Machine, n, by, how int) []bft.Out {
	round := 3 * n
	for (tall+round)%n != by {
		round++
	}
	switch how % 3 {
	case 0:
		return m.Vote(prevote(round, by, 1))
	case 1:
		return m.Vote(precommit(round, by, 0))
	}
	return m.Propose(proposal(n, round, -1, 1))
}

// Rule 6: those of the round and those of a higher one together; a proposal of the round is none of them.
func TestWaitsTogether(t *testing.T) {
	m := at(t, 7, 0, 1)
	says(t, "its proposal", m.Propose(proposal(7, 1, -1, 1)), "prevote 1 for b1")
	says(t, "votes", append(m.Vote(prevote(1, 1, 1)), m.Vote(precommit(1, 2, 1))...), "")
	says(t, "one ahead", m.Vote(prevote(5, 3, 0)), "")
	says(t, "another ahead", m.Propose(proposal(7, 4, -1, 2)), "")
	says(t, "one who is counted", m.Vote(precommit(1, 3, 1)), "")
	says(t, "one more", m.Vote(precommit(1, 5, 2)), "timer 1 which 2")
	says(t, "precommits", m.Vote(precommit(1, 1, 1)), "timer 1 which 3")
}

// The order of the rules: what several of them tell by one call.
func TestRulesOrder(t *testing.T) {
	m := made(t, 4, 2)
	m.Propose(proposal(4, 3, 1, 1))
	votes(m, prevote, 1, 1, 0, 1, 2)
	votes(m, prevote, 3, 1, 0, 1)
	votes(m, precommit, 3, 1, 0, 1)
	m.Vote(precommit(9, 3, 1))
	says(t, "Start", m.Start(), "timer 0 which 1; propose 3 valid -1; timer 3 which 1; prevote 3 for b1; timer 3 which 2; timer 3 which 3")
	says(t, "a prevote", m.Vote(prevote(3, 2, 1)), "precommit 3 for b1")
	says(t, "a precommit", m.Vote(precommit(3, 2, 1)), "commit 3 for b1 block b1")
	if got := fmt.Sprint(kinds(m.Timeout(3, 3))); got != "[]" {
		t.Errorf("behind the end: %s", got)
	}
}
