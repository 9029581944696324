package net_test

import (
	"fmt"
	"math"
	"testing"

	"conclave/api"
)

// P1703: Set of a node at the edges of what is one.
func TestSetNodes(t *testing.T) {
	for _, nodes := range []int{1, 2, 15, 16} {
		n := made(t, nodes)
		for _, node := range []int{-1, -2, nodes, nodes + 1, 17, 1 << 32, math.MinInt, math.MaxInt} {
			is(t, fmt.Sprint("Set of ", node), n.Set(node, 0, 0), api.ErrArg)
			is(t, fmt.Sprint("Set of ", node), n.Set(node, 1, -1), api.ErrArg)
		}
		set(t, "none", n, 0, "[]")
		for node := range nodes {
			is(t, fmt.Sprint("Set of ", node), n.Set(node, 9, 1), api.OK)
		}
		said(t, "Timers", len(n.Timers()), nodes)
	}
}

// P1703: delays below 0, of 0, as far as a clock goes and beyond, from each place where it may stand.
func TestSetDelays(t *testing.T) {
	for _, now := range []int{0, 1, 5, 1000, far / 2, far - 1, far} {
		for _, delay := range []int{0, 1, 2, 5, far - now - 1, far - now, far - now + 1, far, far + 1, -1, -2, -now, -far, math.MinInt, math.MaxInt, math.MaxInt - now, math.MaxInt - far} {
			n := at(t, now)
			what := fmt.Sprint("Set of ", delay, " at ", now)
			if delay < 0 || delay > far-now {
				is(t, what, n.Set(1, 7, delay), api.ErrArg)
				set(t, what, n, now, "[]")
				continue
			}
			is(t, what, n.Set(1, 7, delay), api.OK)
			set(t, what, n, now, fmt.Sprint("[{1 7 ", now+delay, "}]"))
		}
	}
}

// P1703: tags are any numbers.
func TestTags(t *testing.T) {
	n := made(t, 2)
	for _, tag := range []int{0, 1, -1, math.MinInt, math.MaxInt} {
		is(t, "Set", n.Set(1, tag, 3), api.OK)
	}
	want := fmt.Sprint("[{1 0 3} {1 1 3} {1 -1 3} {1 ", math.MinInt, " 3} {1 ", math.MaxInt, " 3}]")
	set(t, "tags", n, 0, want)
	ticks(t, n, 3, want, 3)
}

// P1703: 4095 and 4096 timers; what can't be set at all is told ahead of that; a place that is free is taken again.
func TestSetFull(t *testing.T) {
	n := made(t, 3)
	for i := range 4095 {
		is(t, "Set", n.Set(i%2, i, i), api.OK)
	}
	is(t, "the last place", n.Set(2, 4095, 4095), api.OK)
	for _, delay := range []int{0, 1, 9000, far} {
		is(t, "no place", n.Set(0, 0, delay), api.ErrBig)
	}
	is(t, "no node, no place", n.Set(3, 0, 0), api.ErrArg)
	is(t, "no node, no place", n.Set(-1, 0, 0), api.ErrArg)
	is(t, "below 0, no place", n.Set(0, 0, -1), api.ErrArg)
	is(t, "too far, no place", n.Set(0, 0, far+1), api.ErrArg)
	all := n.Timers()
	said(t, "Timers", len(all), 4096)
	for i, timer := range all {
		if timer.At != i || timer.Tag != i {
			t.Fatalf("timer %d: %v", i, timer)
		}
	}
	n.Clear(2)
	is(t, "a place, cleared", n.Set(2, 1, 1), api.OK)
	is(t, "no place", n.Set(2, 1, 1), api.ErrBig)
	ticks(t, n, 0, "[{0 0 0}]", 0)
	is(t, "a place, told", n.Set(2, 1, 1), api.OK)
	is(t, "no place", n.Set(2, 1, 1), api.ErrBig)
	ticks(t, n, 1, "[{1 1 1} {2 1 1} {2 1 1}]", 1)
	said(t, "Timers", len(n.Timers()), 4093)
}

// P1703: two timers of one node, tag and time are two; one of the same node and tag at another time stays, too.
func TestSameTwice(t *testing.T) {
	n := made(t, 2)
	for range 2 {
		is(t, "Set", n.Set(1, 4, 6), api.OK)
	}
	is(t, "Set", n.Set(1, 4, 2), api.OK)
	is(t, "Set", n.Set(1, 4, 8), api.OK)
	set(t, "twice", n, 0, "[{1 4 2} {1 4 6} {1 4 6} {1 4 8}]")
	ticks(t, n, 100, "[{1 4 2}]", 2)
	is(t, "Set", n.Set(1, 4, 4), api.OK)
	ticks(t, n, 100, "[{1 4 6} {1 4 6} {1 4 6}]", 6)
	ticks(t, n, 100, "[{1 4 8}]", 8)
	ticks(t, n, 100, "[]", 108)
}

// P1703: Clear of a node with timers, without, and of one that is none; the order of the others stays.
func TestClear(t *testing.T) {
	n := made(t, 3)
	n.Clear(0)
	set(t, "Clear of an empty net", n, 0, "[]")
	for i, delay := range []int{5, 3, 5, 3, 4, 5} {
		is(t, "Set", n.Set(i%2, i, delay), api.OK)
	}
	all := "[{1 1 3} {1 3 3} {0 4 4} {0 0 5} {0 2 5} {1 5 5}]"
	for _, node := range []int{2, 3, 4, 16, -1, math.MinInt, math.MaxInt} {
		n.Clear(node)
		set(t, fmt.Sprint("Clear(", node, ")"), n, 0, all)
	}
	n.Clear(1)
	set(t, "Clear(1)", n, 0, "[{0 4 4} {0 0 5} {0 2 5}]")
	n.Clear(1)
	set(t, "Clear(1) again", n, 0, "[{0 4 4} {0 0 5} {0 2 5}]")
	is(t, "Set behind Clear", n.Set(1, 6, 5), api.OK)
	set(t, "Set behind Clear", n, 0, "[{0 4 4} {0 0 5} {0 2 5} {1 6 5}]")
	ticks(t, n, 4, "[{0 4 4}]", 4)
	n.Clear(0)
	set(t, "Clear(0)", n, 4, "[{1 6 5}]")
	n.Clear(1)
	set(t, "Clear of all", n, 4, "[]")
	ticks(t, n, 7, "[]", 11)
}

// P1703: Timers by rising At, of one At as they were set, with others set, cleared and told between, and from several places of the clock.
func TestTimersOrder(t *testing.T) {
	n := made(t, 3)
	n.Set(2, 1, 9)
	n.Set(0, 2, 4)
	n.Set(1, 3, 9)
	n.Set(0, 4, 6)
	n.Set(2, 5, 4)
	set(t, "set", n, 0, "[{0 2 4} {2 5 4} {0 4 6} {2 1 9} {1 3 9}]")
	ticks(t, n, 3, "[]", 3)
	n.Set(1, 6, 1)
	n.Set(0, 7, 6)
	n.Set(2, 8, 0)
	n.Set(0, 9, 7)
	set(t, "later", n, 3, "[{2 8 3} {0 2 4} {2 5 4} {1 6 4} {0 4 6} {2 1 9} {1 3 9} {0 7 9} {0 9 10}]")
	ticks(t, n, 9, "[{2 8 3}]", 3)
	n.Clear(2)
	n.Set(2, 10, 1)
	n.Set(2, 11, 6)
	set(t, "cleared", n, 3, "[{0 2 4} {1 6 4} {2 10 4} {0 4 6} {1 3 9} {0 7 9} {2 11 9} {0 9 10}]")
	ticks(t, n, 1, "[{0 2 4} {1 6 4} {2 10 4}]", 4)
	ticks(t, n, 2, "[{0 4 6}]", 6)
	ticks(t, n, 3, "[{1 3 9} {0 7 9} {2 11 9}]", 9)
	ticks(t, n, 3, "[{0 9 10}]", 10)
}

// P1703: many timers of one At, set while others of other times come between.
func TestOneMoment(t *testing.T) {
	n := made(t, 16)
	want := []string{}
	for i := range 600 {
		is(t, "Set", n.Set(i%16, -i, 50), api.OK)
		want = append(want, fmt.Sprint("{", i%16, " ", -i, " 50}"))
		is(t, "Set", n.Set(i%16, i, 51+i*i%7), api.OK)
		is(t, "Set", n.Set(i%16, i, i*i%50), api.OK)
	}
	told := 0
	for range 50 {
		told += len(n.Tick(49 - n.Now()))
	}
	said(t, "told ahead", told, 600)
	ticks(t, n, 9, fmt.Sprint(want), 50)
	said(t, "Timers", len(n.Timers()), 600)
}
