package net_test

import (
	"fmt"
	"math"
	"testing"

	"conclave/api"
)

// P1703: without a timer the clock goes on by most, no further than it goes; below 0 it stands.
func TestTickAlone(t *testing.T) {
	for _, now := range []int{0, 1, 7, far / 2, far - 2, far - 1, far} {
		for _, most := range []int{math.MinInt, math.MinInt + 1, -far, -now, -2, -1, 0, 1, 2, 3, 100, far - now, far - now - 1, far - now + 1, far, far + 1, 1 << 62, math.MaxInt - far, math.MaxInt - now, math.MaxInt - 1, math.MaxInt} {
			want := now
			if most > 0 && most <= far-now {
				want = now + most
			} else if most > 0 {
				want = far
			}
			ticks(t, at(t, now), most, "[]", want)
		}
	}
}

// P1703: with a timer: below 0, of 0, one short of it, just as far, and beyond, from each place of the clock; what is told is gone.
func TestTickTimer(t *testing.T) {
	for _, now := range []int{0, 1, 7, far / 2, far - 5} {
		for delay := range 6 {
			for _, most := range []int{math.MinInt, -far, -now - delay, -1, 0, 1, 2, 3, 4, 5, 6, 7, far - now, far, far + 1, math.MaxInt - now, math.MaxInt - far, math.MaxInt - 1, math.MaxInt} {
				n := at(t, now)
				is(t, "Set", n.Set(2, 8, delay), api.OK)
				timer := fmt.Sprint("[{2 8 ", now+delay, "}]")
				if max(most, 0) >= delay {
					ticks(t, n, most, timer, now+delay)
					set(t, "told", n, now+delay, "[]")
					ticks(t, n, 0, "[]", now+delay)
					ticks(t, n, math.MaxInt, "[]", far)
					continue
				}
				ticks(t, n, most, "[]", now+max(most, 0))
				set(t, "not told", n, now+max(most, 0), timer)
				ticks(t, n, delay, timer, now+delay)
				ticks(t, n, delay, "[]", now+2*delay-max(0, now+2*delay-far))
			}
		}
	}
}

// P1703: just the first moment's timers are told, however far the clock may go on, and the clock stands at their At.
func TestTickFirst(t *testing.T) {
	n := made(t, 3)
	for i, delay := range []int{9, 4, 6, 4, 9, 4, 6, 10} {
		is(t, "Set", n.Set(i%3, i, delay), api.OK)
	}
	ticks(t, n, 3, "[]", 3)
	ticks(t, n, math.MaxInt, "[{1 1 4} {0 3 4} {2 5 4}]", 4)
	set(t, "the rest", n, 4, "[{2 2 6} {0 6 6} {0 0 9} {1 4 9} {1 7 10}]")
	ticks(t, n, 1, "[]", 5)
	ticks(t, n, 5, "[{2 2 6} {0 6 6}]", 6)
	ticks(t, n, 2, "[]", 8)
	ticks(t, n, 2, "[{0 0 9} {1 4 9}]", 9)
	ticks(t, n, 0, "[]", 9)
	ticks(t, n, -1, "[]", 9)
	ticks(t, n, 1, "[{1 7 10}]", 10)
	ticks(t, n, 1, "[]", 11)
}

// P1703: timers at the clock itself are told without its going on, also ahead of others that are near.
func TestTickNow(t *testing.T) {
	for _, now := range []int{0, 5, far - 1, far} {
		for _, most := range []int{math.MinInt, -1, 0, 1, 9, math.MaxInt} {
			n := at(t, now)
			if now < far {
				is(t, "Set", n.Set(0, 1, 1), api.OK)
			}
			is(t, "Set", n.Set(2, 2, 0), api.OK)
			is(t, "Set", n.Set(1, 3, 0), api.OK)
			ticks(t, n, most, fmt.Sprint("[{2 2 ", now, "} {1 3 ", now, "}]"), now)
			is(t, "Set", n.Set(0, 4, 0), api.OK)
			ticks(t, n, most, fmt.Sprint("[{0 4 ", now, "}]"), now)
			if now < far {
				set(t, "the other", n, now, fmt.Sprint("[{0 1 ", now+1, "}]"))
				ticks(t, n, 1, fmt.Sprint("[{0 1 ", now+1, "}]"), now+1)
			}
		}
	}
}

// P1703: at the end of the clock, and just ahead of it.
func TestTickEnd(t *testing.T) {
	n := made(t, 2)
	is(t, "Set", n.Set(0, 1, far), api.OK)
	is(t, "Set", n.Set(1, 2, far-1), api.OK)
	ticks(t, n, far-2, "[]", far-2)
	ticks(t, n, math.MaxInt, "[{1 2 1099511627775}]", far-1)
	is(t, "Set beyond the end", n.Set(0, 3, 2), api.ErrArg)
	is(t, "Set to the end", n.Set(1, 3, 1), api.OK)
	ticks(t, n, 0, "[]", far-1)
	ticks(t, n, 1, "[{0 1 1099511627776} {1 3 1099511627776}]", far)
	is(t, "Set beyond the end", n.Set(0, 4, 1), api.ErrArg)
	is(t, "Set at the end", n.Set(0, 4, 0), api.OK)
	ticks(t, n, -1, "[{0 4 1099511627776}]", far)
	ticks(t, n, 1, "[]", far)
	ticks(t, n, math.MaxInt, "[]", far)
}

// P1703: a timer that was cleared is not told, and the clock goes on as if it had not been.
func TestTickCleared(t *testing.T) {
	n := made(t, 2)
	n.Set(0, 1, 3)
	n.Set(1, 2, 5)
	n.Clear(0)
	ticks(t, n, 4, "[]", 4)
	n.Clear(1)
	ticks(t, n, 4, "[]", 8)
}
