package net_test

import (
	"cmp"
	"fmt"
	"math"
	"math/rand/v2"
	"slices"
	"strings"
	"testing"

	"conclave/api"
	"conclave/net"
)

// plainPacket: one that was sent or copied; its number is its place.
type plainPacket struct {
	from, to int
	data     string
	gone     bool
}

// plainTimer: one that was set, in the order in which they were.
type plainTimer struct {
	node, tag int
	at        uint64
	gone      bool
}

// plain: the chapter's words said over again, with all packets and timers that ever were.
type plain struct {
	nodes   int
	packets []plainPacket
	timers  []plainTimer
	now     uint64
}

// sum: a moment that far behind the clock, for a delay that is not below 0: no int is so great that it leaves its range.
func (p *plain) sum(delay int) uint64 { return p.now + uint64(delay) }

// node: whether it is one.
func (p *plain) node(x int) bool {
	for i := range p.nodes {
		if x == i {
			return true
		}
	}
	return false
}

func (p *plain) flight() []int {
	var ids []int
	for id, q := range p.packets {
		if !q.gone {
			ids = append(ids, id)
		}
	}
	return ids
}

func (p *plain) send(from, to int, data string) api.Errno {
	if !p.node(from) || !p.node(to) {
		return api.ErrArg
	}
	if len(data) > 65536 || len(p.flight()) >= 4096 {
		return api.ErrBig
	}
	p.packets = append(p.packets, plainPacket{from: from, to: to, data: data})
	return api.OK
}

func (p *plain) copy(id int) api.Errno {
	if !slices.Contains(p.flight(), id) {
		return api.ErrGone
	}
	if len(p.flight()) >= 4096 {
		return api.ErrBig
	}
	p.packets = append(p.packets, p.packets[id])
	return api.OK
}

func (p *plain) take(id int) (string, api.Errno) {
	if !slices.Contains(p.flight(), id) {
		return "", api.ErrGone
	}
	p.packets[id].gone = true
	return p.text(id), api.OK
}

func (p *plain) text(id int) string {
	q := p.packets[id]
	return fmt.Sprintf("%d:%d>%d=%s", id, q.from, q.to, q.data)
}

// left: the places of timers that are set.
func (p *plain) left() []int {
	var l []int
	for i, t := range p.timers {
		if !t.gone {
			l = append(l, i)
		}
	}
	return l
}

// waiting: the same, by the order in which they come.
func (p *plain) waiting() []int {
	l := p.left()
	slices.SortFunc(l, func(a, b int) int {
		return cmp.Or(cmp.Compare(p.timers[a].at, p.timers[b].at), a-b)
	})
	return l
}

func (p *plain) set(node, tag, delay int) api.Errno {
	if !p.node(node) || delay < 0 || p.sum(delay) > 1<<40 {
		return api.ErrArg
	}
	if len(p.left()) >= 4096 {
		return api.ErrBig
	}
	p.timers = append(p.timers, plainTimer{node: node, tag: tag, at: p.sum(delay)})
	return api.OK
}

func (p *plain) clear(node int) {
	for i := range p.timers {
		p.timers[i].gone = p.timers[i].gone || p.timers[i].node == node
	}
}

// tell: timers as a text.
func (p *plain) tell(l []int) string {
	out := []string{}
	for _, i := range l {
		t := p.timers[i]
		out = append(out, fmt.Sprintf("{%d %d %v}", t.node, t.tag, t.at))
	}
	return "[" + strings.Join(out, " ") + "]"
}

func (p *plain) tick(most int) string {
	if most < 0 {
		most = 0
	}
	l := p.waiting()
	if len(l) == 0 || p.timers[l[0]].at > p.sum(most) {
		p.now = min(p.sum(most), 1<<40)
		return "[]"
	}
	first := p.timers[l[0]].at
	if first >= p.now {
		p.now = first
	}
	l = slices.DeleteFunc(l, func(i int) bool { return p.timers[i].at != first })
	for _, i := range l {
		p.timers[i].gone = true
	}
	return p.tell(l)
}

// drawnTimes: how delays and the most of a Tick are drawn in a script.
type drawnTimes struct {
	r    *rand.Rand
	wide bool
}

func (d drawnTimes) draw() int {
	switch n := d.r.IntN(40); {
	case n == 0:
		return []int{math.MinInt, math.MaxInt, -1, far, far + 1, math.MaxInt - far}[d.r.IntN(6)]
	case n < 6 && d.wide:
		return d.r.IntN(far / 20)
	case n < 10:
		return 0
	}
	return d.r.IntN(12)
}

// both: one drawn call of the net and of the chapter's words, as texts.
func both(r *rand.Rand, d drawnTimes, n *net.Net, p *plain) (string, string) {
	node, other := r.IntN(p.nodes), r.IntN(p.nodes)
	if r.IntN(25) == 0 {
		node = []int{-1, p.nodes, math.MinInt, math.MaxInt}[r.IntN(4)]
	}
	if r.IntN(25) == 0 {
		other = []int{-1, p.nodes, math.MinInt, math.MaxInt}[r.IntN(4)]
	}
	id := r.IntN(len(p.packets)+2) - 1
	if ids := p.flight(); len(ids) > 0 && r.IntN(4) > 0 {
		id = ids[r.IntN(len(ids))]
	}
	switch r.IntN(12) {
	case 0, 1, 2:
		data := fmt.Sprintf("%x", r.Uint64())[:r.IntN(8)]
		return fmt.Sprint("send ", int(n.Send(node, other, []byte(data)))), fmt.Sprint("send ", int(p.send(node, other, data)))
	case 3:
		return fmt.Sprint("copy ", int(n.Copy(id))), fmt.Sprint("copy ", int(p.copy(id)))
	case 4, 5, 6:
		got, err := n.Take(id)
		want, wrong := p.take(id)
		if wrong != api.OK {
			want = packet(net.Packet{})
		}
		return fmt.Sprint("take ", int(err), " ", packet(got)), fmt.Sprint("take ", int(wrong), " ", want)
	case 7, 8, 9:
		tag, delay := r.IntN(5), d.draw()
		return fmt.Sprint("set ", int(n.Set(node, tag, delay))), fmt.Sprint("set ", int(p.set(node, tag, delay)))
	case 10:
		if r.IntN(6) == 0 {
			n.Clear(node)
			p.clear(node)
			return "clear", "clear"
		}
	}
	most := d.draw()
	return fmt.Sprint("tick ", n.Tick(most)), fmt.Sprint("tick ", p.tick(most))
}

// looks: all that a net tells of itself, and what it should.
func looks(n *net.Net, p *plain) (string, string) {
	var got, want []string
	for _, q := range n.Flight() {
		got = append(got, packet(q))
	}
	for _, id := range p.flight() {
		want = append(want, p.text(id))
	}
	return fmt.Sprintf("%q %v %d", got, n.Timers(), n.Now()), fmt.Sprintf("%q %s %v", want, p.tell(p.waiting()), p.now)
}

// P1701 to P1703: drawn calls, one behind the other, answer what the chapter's words say, and the looks agree behind each.
func TestDrawn(t *testing.T) {
	r := rand.New(rand.NewPCG(17, 1))
	met := map[string]int{}
	for script := range 120 {
		nodes := 1 + r.IntN(api.MaxNodes)
		n, p := made(t, nodes), &plain{nodes: nodes}
		d := drawnTimes{r: r, wide: script%3 == 0}
		for step := range 250 {
			got, want := both(r, d, n, p)
			if got != want {
				t.Fatalf("script %d, call %d: %s, not %s", script, step, got, want)
			}
			met[want[:min(len(want), 7)]]++
			if p.now == 1<<40 {
				met["end"]++
			}
			if got, want := looks(n, p); got != want {
				t.Fatalf("script %d, behind call %d (%s): %s, not %s", script, step, want, got, want)
			}
		}
	}
	for _, want := range []string{"send 0", "send 1", "copy 0", "copy 33", "take 0 ", "take 33", "set 0", "set 1", "clear", "tick []", "tick [{", "end"} {
		if met[want] < 10 {
			t.Errorf("too few draws met %q: %v", want, met)
		}
	}
}

// P1702, P1703: drawn calls about the limits of packets and timers.
func TestDrawnFull(t *testing.T) {
	r := rand.New(rand.NewPCG(17, 2))
	met := map[string]int{}
	n, p := made(t, 3), &plain{nodes: 3}
	for i := range 4090 {
		n.Send(0, i%3, []byte("x"))
		p.send(0, i%3, "x")
		n.Set(i%2, i, 20+i%9)
		p.set(i%2, i, 20+i%9)
	}
	for step := range 200 {
		if r.IntN(2) == 0 {
			node, delay := r.IntN(3), r.IntN(40)
			is(t, "Set", n.Set(node, -1, delay), p.set(node, -1, delay))
			is(t, "Send", n.Send(node, 2, nil), p.send(node, 2, ""))
		}
		id := []int{r.IntN(40), r.IntN(len(p.packets))}[r.IntN(2)]
		var got, want api.Errno
		switch r.IntN(3) {
		case 0:
			_, got = n.Take(id)
			_, want = p.take(id)
		case 1:
			got, want = n.Copy(id), p.copy(id)
		case 2:
			got, want = n.Set(0, step, 30), p.set(0, step, 30)
		}
		met[fmt.Sprint(int(want))]++
		is(t, fmt.Sprint("call ", step), got, want)
		said(t, "Tick", n.Tick(-1), p.tick(-1))
		if step%20 > 0 {
			continue
		}
		if got, want := looks(n, p); got != want {
			t.Fatalf("behind call %d: other looks", step)
		}
	}
	for _, want := range []string{"0", "3", "33"} {
		if met[want] < 5 {
			t.Errorf("too few draws met %q: %v", want, met)
		}
	}
}
