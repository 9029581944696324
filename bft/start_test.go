package bft_test

import (
	"fmt"
	"math"
	"testing"

	"conclave/api"
	"conclave/bft"
)

// P1802: Start begins round 0, just once; who proposes there is told so, whatever the numbers.
func TestStart(t *testing.T) {
	for n := 1; n <= api.MaxNodes; n++ {
		for me := range n {
			m := made(t, n, me)
			want := "timer 0 which 1"
			if me == tall%n {
				want = "propose 0 valid -1; timer 0 which 1"
			}
			says(t, fmt.Sprint("Start of ", me, " of ", n), m.Start(), want)
			stands(t, "Start", m, "round 0 step 1")
			says(t, "Start again", m.Start(), "")
			stands(t, "Start again", m, "round 0 step 1")
		}
	}
}

// P1802: a height beyond all ints.
func TestStartHigh(t *testing.T) {
	for n := 1; n <= api.MaxNodes; n++ {
		for me := range n {
			m, _ := bft.New(n, me, math.MaxUint64, nil)
			want := "timer 0 which 1"
			if uint64(me) == math.MaxUint64%uint64(n) {
				want = "propose 0 valid -1; timer 0 which 1"
			}
			says(t, fmt.Sprint("Start of ", me, " of ", n), m.Start(), want)
		}
	}
}

// P1802: Start again, at any step and behind the end.
func TestStartAgain(t *testing.T) {
	m := made(t, 1, 0)
	for _, step := range []func() []bft.Out{
		m.Start,
		func() []bft.Out { return m.Propose(proposal(1, 0, -1, 1)) },
		func() []bft.Out { return m.Vote(prevote(0, 0, 1)) },
		func() []bft.Out { return m.Timeout(3, 0) },
		func() []bft.Out { return m.Vote(precommit(0, 0, 1)) },
	} {
		step()
		was := m.State()
		says(t, "Start again", m.Start(), "")
		if m.State() != was {
			t.Errorf("Start again: %v, not %v", m.State(), was)
		}
	}
	stands(t, "at last", m, "round 1 step 1 locked 0 on b1 valid 0 is b1 done")
}

// P1802: what came ahead of Start is kept, tells nothing then, and is asked at Start.
func TestStartBehind(t *testing.T) {
	m := made(t, 4, 0)
	says(t, "Propose", m.Propose(proposal(4, 0, -1, 1)), "")
	says(t, "prevotes", votes(m, prevote, 0, 1, 0, 1, 2), "")
	says(t, "precommits", votes(m, precommit, 0, 1, 1), "")
	says(t, "Timeout", m.Timeout(1, 0), "")
	says(t, "Timeout", m.Timeout(3, 0), "")
	stands(t, "ahead", m, "round 0 step 0 not started")
	says(t, "Start", m.Start(), "timer 0 which 1; prevote 0 for b1; precommit 0 for b1")
	stands(t, "behind", m, "round 0 step 3 locked 0 on b1 valid 0 is b1")
	m = made(t, 4, 3)
	says(t, "precommits", votes(m, precommit, 0, 1, 0, 1, 2), "")
	says(t, "votes of a higher round", votes(m, prevote, 5, 0, 0, 1), "")
	says(t, "Propose", m.Propose(proposal(4, 0, -1, 1)), "")
	says(t, "Start", m.Start(), "propose 0 valid -1; timer 0 which 1; commit 0 for b1 block b1")
	stands(t, "behind", m, "round 0 step 1 done")
}

// P1803: Timeout ahead of Start, behind the end, and of another round: nothing.
func TestTimeoutNothing(t *testing.T) {
	numbers := []int{math.MinInt, -1, 0, 1, 2, 3, 4, highest, math.MaxInt}
	for _, which := range numbers {
		for _, round := range numbers {
			m := made(t, 4, 0)
			says(t, "ahead of Start", m.Timeout(which, round), "")
			stands(t, "ahead of Start", m, "round 0 step 0 not started")
			m = at(t, 4, 0, 5)
			says(t, "of another round", m.Timeout(which, round), "")
			stands(t, "of another round", m, "round 5 step 1")
			m.Propose(proposal(4, 5, -1, 1))
			votes(m, precommit, 5, 1, 0, 1, 2)
			for _, round := range append(numbers, 5, 6) {
				says(t, "behind the end", m.Timeout(which, round), "")
			}
			stands(t, "behind the end", m, "round 5 step 2 done")
		}
	}
}

// stepped: a machine of four, in round 2, at that step, without a lock.
func stepped(t *testing.T, step int) *bft.Machine {
	m := at(t, 4, 0, 2)
	if step > 1 {
		says(t, "Timeout 1", m.Timeout(1, 2), "prevote 2")
	}
	if step > 2 {
		says(t, "Timeout 2", m.Timeout(2, 2), "precommit 2")
	}
	stands(t, "stepped", m, fmt.Sprint("round 2 step ", step))
	return m
}

// P1803: each Which at each step of the round.
func TestTimeout(t *testing.T) {
	for step := 1; step <= 3; step++ {
		for _, which := range []int{math.MinInt, -1, 0, 1, 2, 3, 4, 5, 1<<32 + 1, math.MaxInt} {
			m := stepped(t, step)
			want, state := "", fmt.Sprint("round 2 step ", step)
			switch {
			case which == 3:
				want, state = "timer 3 which 1", "round 3 step 1"
			case which == step && step == 1:
				want, state = "prevote 2", "round 2 step 2"
			case which == step && step == 2:
				want, state = "precommit 2", "round 2 step 3"
			}
			what := fmt.Sprint("Timeout ", which, " at step ", step)
			says(t, what, m.Timeout(which, 2), want)
			stands(t, what, m, state)
		}
	}
}

// P1803: Timeout asks the rules: those of the new step, and those of the round that begins.
func TestTimeoutRules(t *testing.T) {
	m := at(t, 4, 1, 0)
	says(t, "prevotes", votes(m, prevote, 0, 0, 1, 2, 3), "")
	says(t, "Timeout 1", m.Timeout(1, 0), "prevote 0; precommit 0")
	m = at(t, 4, 1, 0)
	says(t, "prevotes", votes(m, prevote, 0, 1, 1, 2, 3), "")
	says(t, "Timeout 1", m.Timeout(1, 0), "prevote 0; timer 0 which 2")
	says(t, "Propose of the next round", m.Propose(proposal(4, 1, -1, 2)), "")
	says(t, "Timeout 3", m.Timeout(3, 0), "timer 1 which 1; prevote 1 for b2")
	m = at(t, 4, 1, 0)
	says(t, "Propose of the next round", m.Propose(proposal(4, 1, 0, 2)), "")
	says(t, "prevotes of the round of its Valid", votes(m, prevote, 0, 2, 1, 2, 3), "")
	says(t, "Timeout 3", m.Timeout(3, 0), "timer 1 which 1; prevote 1 for b2")
}

// P1803: who proposes in the next round is told so; with the valid block, if there is one.
func TestBegins(t *testing.T) {
	m := at(t, 4, 1, 0)
	says(t, "its proposal", m.Propose(proposal(4, 0, -1, 2)), "prevote 0 for b2")
	says(t, "prevotes", votes(m, prevote, 0, 2, 1, 2, 3), "precommit 0 for b2")
	says(t, "Timeout 3", m.Timeout(3, 0), "timer 1 which 1")
	says(t, "Timeout 3", m.Timeout(3, 1), "propose 2 valid 0 has block b2; timer 2 which 1")
	stands(t, "begun", m, "round 2 step 1 locked 0 on b2 valid 0 is b2")
	for round := 2; round < 5; round++ {
		says(t, "Timeout 3", m.Timeout(3, round), fmt.Sprint("timer ", round+1, " which 1"))
	}
	says(t, "Timeout 3", m.Timeout(3, 5), "propose 6 valid 0 has block b2; timer 6 which 1")
	m = at(t, 4, 1, 0)
	for round := range 12 {
		want := fmt.Sprint("timer ", round+1, " which 1")
		if (tall+round+1)%4 == 1 {
			want = fmt.Sprint("propose ", round+1, " valid -1; ") + want
		}
		says(t, "without a valid block", m.Timeout(3, round), want)
	}
}

// P1803: a round that begins tells the valid block, which need not be the locked one.
func TestBeginsValid(t *testing.T) {
	m := at(t, 4, 0, 0)
	m.Propose(proposal(4, 0, -1, 1))
	says(t, "prevotes", votes(m, prevote, 0, 1, 1, 2, 3), "precommit 0 for b1")
	m.Timeout(3, 0)
	says(t, "another block", m.Propose(proposal(4, 1, -1, 2)), "prevote 1")
	says(t, "Timeout 2", m.Timeout(2, 1), "precommit 1")
	says(t, "its prevotes", votes(m, prevote, 1, 2, 1, 2, 3), "")
	stands(t, "valid", m, "round 1 step 3 locked 0 on b1 valid 1 is b2")
	for round := 1; round < 4; round++ {
		m.Timeout(3, round)
	}
	says(t, "Timeout 3", m.Timeout(3, 4), "propose 5 valid 1 has block b2; timer 5 which 1")
	says(t, "the proposal comes back", m.Propose(proposal(4, 5, 1, 2)), "prevote 5 for b2")
}

// P1803: there is no round behind the last one.
func TestLastRound(t *testing.T) {
	m := made(t, 4, 0)
	m.Start()
	says(t, "votes of the last but one", votes(m, prevote, highest-1, 0, 1, 2), fmt.Sprint("timer ", highest-1, " which 1"))
	want := fmt.Sprint("timer ", highest, " which 1")
	if (tall+highest)%4 == 0 {
		want = "propose " + fmt.Sprint(highest) + " valid -1; " + want
	}
	says(t, "Timeout 3", m.Timeout(3, highest-1), want)
	for step := 1; step <= 3; step++ {
		says(t, "Timeout 3 of the last", m.Timeout(3, highest), "")
		stands(t, "the last", m, fmt.Sprint("round ", highest, " step ", step))
		m.Timeout(step, highest)
	}
	says(t, "of none", m.Timeout(3, highest+1), "")
	says(t, "a proposal there", m.Propose(proposal(4, highest, -1, 1)), "")
	says(t, "precommits there", votes(m, precommit, highest, 1, 0, 1, 2), fmt.Sprint("commit ", highest, " for b1 block b1"))
}
