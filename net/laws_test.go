package net_test

import (
	"fmt"
	"math/rand/v2"
	"testing"

	"conclave/api"
	"conclave/net"
)

// carrier: who draws sends, copies and takes, and counts them by what was sent.
type carrier struct {
	r           *rand.Rand
	n           *net.Net
	sent, taken map[string]int
	texts       int
}

// body: what there is of a packet but its number.
func body(p net.Packet) string { return fmt.Sprintf("%d>%d=%s", p.From, p.To, p.Data) }

func (c *carrier) step(t *testing.T) {
	all := c.n.Flight()
	switch k := c.r.IntN(5); {
	case len(all) == 0 || k < 2:
		c.texts++
		p := net.Packet{From: c.r.IntN(4), To: c.r.IntN(4), Data: fmt.Append(nil, "text ", c.texts)}
		is(t, "Send", c.n.Send(p.From, p.To, p.Data), api.OK)
		c.sent[body(p)]++
	case k == 2:
		p := all[c.r.IntN(len(all))]
		is(t, "Copy", c.n.Copy(p.Id), api.OK)
		c.sent[body(p)]++
	default:
		c.take(t, all)
	}
}

// take: any one of those that are on their way.
func (c *carrier) take(t *testing.T, all []net.Packet) {
	p, err := c.n.Take(all[c.r.IntN(len(all))].Id)
	is(t, "Take", err, api.OK)
	c.taken[body(p)]++
	if c.taken[body(p)] > c.sent[body(p)] {
		t.Fatalf("taken, but not sent so often: %s", body(p))
	}
}

// P1704: over drawn scripts, what is taken is what was sent, each as often as it was sent and copied.
func TestTakenIsSent(t *testing.T) {
	r := rand.New(rand.NewPCG(17, 4))
	for range 60 {
		c := &carrier{r: r, n: made(t, 4), sent: map[string]int{}, taken: map[string]int{}}
		for range 200 {
			c.step(t)
			c.n.Set(r.IntN(4), 1, r.IntN(3))
			c.n.Tick(r.IntN(4))
		}
		for range c.n.Flight() {
			c.take(t, c.n.Flight())
		}
		flies(t, "all taken", c.n)
		said(t, "taken in all", c.taken, c.sent)
	}
}

// alarm: a timer that was set, told by its tag.
type alarm struct {
	timer         net.Timer
	cleared, told bool
}

// watch: who draws timers, and looks at what is told of them.
type watch struct {
	r      *rand.Rand
	n      *net.Net
	alarms []alarm
	last   net.Timer // that was told
}

func (w *watch) set(t *testing.T) {
	timer := net.Timer{Node: w.r.IntN(3), Tag: len(w.alarms), At: w.n.Now()}
	delay := w.r.IntN(1 + w.r.IntN(30))
	timer.At += delay
	is(t, "Set", w.n.Set(timer.Node, timer.Tag, delay), api.OK)
	w.alarms = append(w.alarms, alarm{timer: timer})
}

func (w *watch) clear() {
	node := w.r.IntN(3)
	w.n.Clear(node)
	for i := range w.alarms {
		if a := &w.alarms[i]; a.timer.Node == node {
			a.cleared = true
		}
	}
}

// tick: what is told is as it was set, once, not cleared, at its time, and behind what was told before.
func (w *watch) tick(t *testing.T, most int) {
	before := w.n.Now()
	told := w.n.Tick(most)
	if w.n.Now() < before || w.n.Now()-before > max(most, 0) {
		t.Fatalf("the clock went from %d to %d by a Tick of %d", before, w.n.Now(), most)
	}
	for _, timer := range told {
		a := &w.alarms[timer.Tag]
		if a.timer != timer || a.told || a.cleared {
			t.Fatalf("told: %v, of %v", timer, *a)
		}
		a.told = true
		if timer.At > w.n.Now() || timer.At < before {
			t.Fatalf("told at %d: %v", w.n.Now(), timer)
		}
		if timer.At < w.last.At || timer.At == w.last.At && timer.Tag < w.last.Tag {
			t.Fatalf("told behind %v: %v", w.last, timer)
		}
		w.last = timer
	}
	for _, a := range w.alarms {
		if !a.told && !a.cleared && a.timer.At < w.n.Now() {
			t.Fatalf("not told at %d: %v", w.n.Now(), a.timer)
		}
	}
}

// P1704: over drawn scripts, timers are told once, in the order of their times, none ahead of its time; and in the end all that were not cleared.
func TestToldOnce(t *testing.T) {
	r := rand.New(rand.NewPCG(17, 5))
	cleared, told := 0, 0
	for range 80 {
		w := &watch{r: r, n: made(t, 3), last: net.Timer{At: -1}}
		for range 150 {
			switch k := r.IntN(20); {
			case k == 0:
				w.clear()
			case k < 9:
				w.set(t)
			default:
				w.tick(t, r.IntN(14)-2)
			}
		}
		for range w.n.Timers() {
			w.tick(t, far)
		}
		for _, a := range w.alarms {
			if a.told {
				told++
			} else if a.cleared {
				cleared++
			} else {
				t.Fatalf("never told: %v", a.timer)
			}
		}
		said(t, "left", w.n.Timers(), "[]")
	}
	if cleared < 50 || told < 50 {
		t.Errorf("too few draws: %d cleared, %d told", cleared, told)
	}
}
