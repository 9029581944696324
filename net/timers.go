package net

import (
	"iter"
	"slices"
	"sort"

	"conclave/api"
)

const mostTimers = 4096

// Set: a timer of a node, so far from now.
func (n *Net) Set(node, tag, delay int) api.Errno {
	switch {
	case n == nil:
		return api.ErrNil
	case !n.is(node), delay < 0, delay > n.left():
		return api.ErrArg
	case len(n.timers) >= mostTimers:
		return api.ErrBig
	}
	t := Timer{Node: node, Tag: tag, At: n.now() + delay}
	behind := sort.Search(len(n.timers), func(i int) bool { return n.timers[i].At > t.At })
	n.timers = slices.Insert(n.timers, behind, t)
	return api.OK
}

// Clear: a node has no timers any more.
func (n *Net) Clear(node int) {
	if n == nil {
		return
	}
	n.timers = slices.DeleteFunc(n.timers, func(t Timer) bool { return t.Node == node })
}

// Timers: all that are set.
func (n *Net) Timers() []Timer {
	if n == nil {
		return nil
	}
	return slices.Clone(n.timers)
}

// Tick: the clock goes on by most, or just to the first timers, which are told.
func (n *Net) Tick(most int) []Timer {
	if n == nil {
		return nil
	}
	most = max(most, 0)
	if len(n.timers) == 0 || n.timers[0].At-n.now() > most {
		n.reach(n.now() + min(most, n.left()))
		return nil
	}
	n.reach(n.timers[0].At)
	var told []Timer
	for t := range n.first() {
		told = append(told, t)
	}
	n.timers = slices.Delete(n.timers, 0, len(told))
	return told
}

// first: the timers of the first moment that has some, as they were set.
func (n *Net) first() iter.Seq[Timer] {
	return func(yield func(Timer) bool) {
		for _, t := range n.timers {
			if t.At != n.timers[0].At || !yield(t) {
				return
			}
		}
	}
}
