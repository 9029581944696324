package net

import (
	"sync"
	"sync/atomic"
)

const furthest = 1 << 40 // beyond it no clock goes

// clock: moments from 0 on; it never goes back.
type clock struct {
	once sync.Once
	at   *atomic.Int64 // none till the clock has begun, so it is asked by number alone
}

// number: of the clock, which begins as it is asked for the first time.
func (c *clock) number() *atomic.Int64 {
	c.once.Do(func() { c.at = new(atomic.Int64) })
	return c.at
}

func (c *clock) now() int { return int(c.number().Load()) }

// reach: the clock stands at that moment, if it is not further already.
func (c *clock) reach(at int) { c.number().Store(int64(max(at, c.now()))) }

// left: how far the clock can go on. It is what a number is held against, since a sum with the clock could leave its range.
func (c *clock) left() int { return furthest - c.now() }

// Now: the clock.
func (n *Net) Now() int {
	if n == nil {
		return 0
	}
	return n.now()
}
