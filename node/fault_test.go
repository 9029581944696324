package node_test

import (
	"fmt"
	"math/rand/v2"
	"slices"
	"strings"
	"testing"

	"conclave/api"
	"conclave/disk"
	"conclave/node"
	"conclave/signer"
)

// call: one of a node's life, what it answered, and where the node was behind it.
type call struct {
	what   string
	data   []byte // of Handle
	do     func(n *node.Node) (node.Act, api.Errno)
	act    node.Act
	err    api.Errno
	height uint64
	root   api.Hash
}

// life: calls that a node without faults got, one behind the other.
type life struct {
	n, me int
	calls []call
	steps int // of its disk, behind Open
}

// live: the node gets a call, and it is noted.
func (l *life) live(x *node.Node, what string, do func(n *node.Node) (node.Act, api.Errno)) node.Act {
	a, err := do(x)
	l.calls = append(l.calls, call{what: what, do: do, act: a, err: err, height: x.Height(), root: x.Root()})
	return a
}

func (l *life) handle(x *node.Node, data []byte) node.Act {
	a := l.live(x, "Handle of "+named(data), func(n *node.Node) (node.Act, api.Errno) { return n.Handle(1, data), api.OK })
	l.calls[len(l.calls)-1].data = data
	return a
}

func (l *life) timeout(x *node.Node, t node.Timer) node.Act {
	return l.live(x, fmt.Sprint("Timeout of ", t), func(n *node.Node) (node.Act, api.Errno) { return n.Timeout(t), api.OK })
}

func (l *life) submit(x *node.Node, b []byte) node.Act {
	return l.live(x, "Submit", func(n *node.Node) (node.Act, api.Errno) { return n.Submit(b) })
}

func (l *life) apply(x *node.Node, b api.Block, c api.Commit) node.Act {
	return l.live(x, "Apply", func(n *node.Node) (node.Act, api.Errno) { return n.Apply(b, c) })
}

// lonely: the life of a validator alone, so long that its signer's log is trimmed.
func lonely(t *testing.T, heights int) *life {
	t.Helper()
	d := fresh(t)
	x := opened(t, 1, 0, d)
	l := &life{n: 1}
	before := d.Steps()
	for h := range heights {
		l.submit(x, pay(0, uint64(h), 1, 1))
		l.submit(x, signed(1, api.Tx{Nonce: uint64(h), Price: 1, Gas: 100000, To: address(counter)}))
		l.timeout(x, node.Timer{Height: uint64(h) + 1, Which: 5})
	}
	l.steps = d.Steps() - before
	return l
}

// social: the life of one of four; of the first heights the proposer's messages get lost, so that there are rounds, a lock, a block that is proposed again, and a block that others have committed.
func social(t *testing.T, me int) *life {
	t.Helper()
	r := rand.New(rand.NewPCG(19, 77))
	disks := []*disk.Disk{fresh(t), fresh(t), fresh(t), fresh(t)}
	var nodes []*node.Node
	for i, d := range disks {
		nodes = append(nodes, opened(t, 4, i, d))
	}
	l := &life{n: 4, me: me}
	before := disks[me].Steps()
	var flight []packet
	var alarms []alarm
	var owners []int // of the alarms
	now := 0
	done := func(from int, a node.Act) {
		for _, s := range a.Sends {
			for to := range 4 {
				if to != from && r.IntN(100) < 75 {
					flight = append(flight, packet{from, to, s.Data})
				}
			}
		}
		for _, t := range a.Timers {
			alarms, owners = append(alarms, alarm{now + t.Delay, t}), append(owners, from)
		}
	}
	hand := func(i int, data []byte) node.Act {
		if i == me {
			return l.handle(nodes[i], data)
		}
		return nodes[i].Handle(1, data)
	}
	ring := func(i int, t node.Timer) node.Act {
		if i == me {
			return l.timeout(nodes[i], t)
		}
		return nodes[i].Timeout(t)
	}
	for i := range 4 {
		done(i, ring(i, node.Timer{Height: 1, Which: 5}))
	}
	for ; nodes[me].Height() < 5 && now < 2000; now++ {
		for len(flight) > 0 {
			p := flight[0]
			flight = flight[1:]
			a := hand(p.to, p.data)
			done(p.to, a)
			if b, c, there := nodes[p.from].At(nodes[p.to].Height() + 1); a.Ahead > 0 && there && now%2 == 0 {
				if p.to == me {
					a = l.apply(nodes[me], b, c)
				} else {
					a, _ = nodes[p.to].Apply(b, c)
				}
				done(p.to, a)
			}
		}
		for i := 0; i < len(alarms); i++ {
			if alarms[i].at == now {
				done(owners[i], ring(owners[i], alarms[i].Timer))
			}
		}
		if now%40 == 0 {
			b := pay(0, uint64(now/40), 1, 1)
			done(me, l.submit(nodes[me], b))
		}
	}
	l.steps = disks[me].Steps() - before
	if nodes[me].Height() < 5 {
		t.Fatalf("height %d at %d", nodes[me].Height(), now)
	}
	return l
}

// meets: what there is in a life, so that it is known to be one that tries something.
func (l *life) meets(t *testing.T, words ...string) {
	t.Helper()
	all := ""
	for _, c := range l.calls {
		all += c.what + " => " + told(c.act) + "\n"
	}
	for _, w := range words {
		if !strings.Contains(all, w) {
			t.Errorf("no %s in this life", w)
		}
	}
}

// ends: the life up to the call in which the node halts, on a disk; its number, and what it answered.
func (l *life) ends(t *testing.T, n *node.Node) (int, node.Act) {
	t.Helper()
	for i, c := range l.calls {
		h, root, pool := n.Height(), n.Root(), n.Pool()
		a, err := c.do(n)
		if n.Err() == api.OK {
			if !alike(a, c.act) || err != c.err || n.Height() != c.height || n.Root() != c.root {
				t.Fatalf("%s: %s, not %s", c.what, told(a), told(c.act))
			}
			continue
		}
		// What was done ahead of the fault is told, and nothing behind it.
		if len(a.Sends) > len(c.act.Sends) || len(a.Timers) > len(c.act.Timers) || a.Ahead != 0 {
			t.Fatalf("%s: %s, not a part of %s", c.what, told(a), told(c.act))
		}
		part := c.act
		part.Sends, part.Timers = part.Sends[:len(a.Sends)], part.Timers[:len(a.Timers)]
		if !alike(a, part) || c.what == "Apply" && (err != n.Err() || !nothing(a)) {
			t.Fatalf("%s: %s, %d, not a part of %s", c.what, told(a), err, told(c.act))
		}
		if n.Height() != h || n.Root() != root || len(n.Pool()) != len(pool) {
			t.Fatalf("%s: its looks have changed", c.what)
		}
		return i, a
	}
	return -1, node.Act{}
}

// stays: a node that has halted answers nothing, and does nothing to its disk; its looks stay.
func (l *life) stays(t *testing.T, n *node.Node, d *disk.Disk, from int) {
	t.Helper()
	steps, why, looks := d.Steps(), n.Err(), look(n)
	for _, c := range l.calls[from:min(from+30, len(l.calls))] {
		a, err := c.do(n)
		want := api.OK
		if c.what == "Submit" || c.what == "Apply" {
			want = api.ErrHalt
		}
		if !nothing(a) || err != want {
			t.Fatalf("%s of one that has halted: %s, %d", c.what, told(a), err)
		}
	}
	for which := range 6 {
		if a := n.Timeout(node.Timer{Height: n.Height() + 1, Which: which}); !nothing(a) {
			t.Fatalf("Timeout of one that has halted: %s", told(a))
		}
	}
	if a := n.Start(); !nothing(a) || n.Err() != why || d.Steps() != steps || look(n) != looks {
		t.Fatalf("one that has halted goes on: %s, %d", told(a), n.Err())
	}
}

// look: what a node's looks tell.
func look(n *node.Node) string {
	s := fmt.Sprint(n.Height(), n.Root(), n.Pool(), n.State().Balance(address(1)), n.State().Err())
	for h := range n.Height() + 2 {
		b, c, there := n.At(h)
		s += fmt.Sprint(b, c, there, n.Receipts(h))
	}
	return s
}

// A disk that is full, or fails, or is cut, at any step: the node halts, and tells that error. (P1902, P3)
func TestFaults(t *testing.T) {
	t.Parallel()
	alone := lonely(t, 7)
	one, two := social(t, 0), social(t, 1)
	alone.meets(t, "proposal(7 0 -1")
	both := &life{calls: append(slices.Clone(one.calls), two.calls...)}
	both.meets(t, "Apply => ", " => ahead 3", "vote(2 1 ", " 1 0 by", "proposal(")
	for i, l := range []*life{alone, one, two} {
		t.Run(fmt.Sprint(i), func(t *testing.T) {
			t.Parallel()
			trims := 0
			for k := 1; k <= l.steps; k++ {
				for _, kind := range []int{disk.IO, disk.Full, disk.Crash} {
					if l == alone || kind == 1+k%3 { // the others are long
						trims += l.fault(t, k, kind)
					}
				}
			}
			if l == alone && trims != 2*1 {
				t.Errorf("%d faults of the signer's trim", trims)
			}
		})
	}
}

// fault: the life on a disk with a fault; 1, if it was met as the signer's log was trimmed, whose error is not told.
func (l *life) fault(t *testing.T, k, kind int) int {
	t.Helper()
	d := fresh(t)
	n := opened(t, l.n, l.me, d)
	d.Arm([]disk.Fault{{At: k, Kind: kind}})
	i, a := l.ends(t, n)
	if i < 0 {
		t.Fatalf("step %d: it has not halted", k)
	}
	want := []api.Errno{api.ErrIO, api.ErrFull, api.ErrCrash}[kind-1]
	trimmed := 0
	if n.Err() == api.ErrHalt && kind != disk.Crash && signFiles(d) > 1 {
		want, trimmed = api.ErrHalt, 1
		last, _ := signerOn(t, d, l.me).Last() // which was signed, so it is sent
		if got := markOf(t, a.Sends[len(a.Sends)-1].Data); got != last {
			t.Errorf("step %d: %v is sent, not %v", k, got, last)
		}
	}
	if n.Err() != want {
		t.Fatalf("step %d, kind %d: %d, not %d", k, kind, n.Err(), want)
	}
	l.stays(t, n, d, i)
	return trimmed
}

// markOf: for what a message was signed.
func markOf(t *testing.T, data []byte) signer.Mark {
	t.Helper()
	if data[0] == node.KProposal {
		p := proposalOf(t, data)
		return mark(p.Height, p.Round, 1)
	}
	v := voteOf(t, data)
	return mark(v.Height, v.Round, v.Kind+1)
}

func signFiles(d *disk.Disk) int {
	many := 0
	for _, name := range d.List() {
		if strings.HasPrefix(name, "sign.") {
			many++
		}
	}
	return many
}

// A disk that is full by what stands on it. (P3)
func TestFull(t *testing.T) {
	t.Parallel()
	g := genesis(1)
	full, halted := 0, 0
	for size := 0; size < 12000; size += 97 {
		d, _ := disk.New(size)
		n, err := node.Open(g, 0, seed(0), d)
		if err != api.OK {
			if err != api.ErrFull || n != nil {
				t.Fatalf("room %d: %d", size, err)
			}
			full++
			continue
		}
		for h := uint64(1); n.Err() == api.OK && h < 9; h++ {
			n.Submit(pay(0, h-1, 1, 1))
			n.Timeout(node.Timer{Height: h, Which: 5})
		}
		if n.Err() == api.ErrFull {
			halted++
		} else if n.Err() != api.OK {
			t.Fatalf("room %d: %d", size, n.Err())
		}
		h, root := n.Height(), n.Root()
		d.Boot(nil)
		if x, err := node.Open(g, 0, seed(0), d); err == api.OK && (x.Height() < h || x.Height() == h && x.Root() != root) {
			t.Fatalf("room %d: height %d behind %d", size, x.Height(), h)
		} else if err != api.OK && err != api.ErrFull {
			t.Fatalf("room %d: %d", size, err)
		}
	}
	if full < 5 || halted < 20 {
		t.Errorf("full %d times, halted %d times", full, halted)
	}
}

// What is signed elsewhere on the disk: nothing is done, and the node goes on. (P1902)
func TestSignedElsewhere(t *testing.T) {
	d := fresh(t)
	s := signerOn(t, d, 0)
	s.Sign(mark(1, 0, 2), []byte("text"), nil)
	n := opened(t, 1, 0, d)
	a := n.Start()
	says(t, "Start", n, a, "", [2]int{0, 1}, [2]int{0, 4})
	if n.Err() != api.OK {
		t.Fatalf("halted: %d", n.Err())
	}
	says(t, "timer 1", n, n.Timeout(node.Timer{Height: 1, Which: 1}), "")
	// Of a mark above it is signed again. With no vote of its own there is no timer 3, so a vote of its own that comes from elsewhere brings one.
	d = fresh(t)
	s = signerOn(t, d, 0)
	s.Sign(mark(1, 0, 2), []byte("text"), nil)
	n = opened(t, 4, 0, d)
	says(t, "Start of four", n, n.Start(), "", [2]int{0, 1}, [2]int{0, 4})
	says(t, "timer 1", n, n.Timeout(node.Timer{Height: 1, Which: 1}), "")
	says(t, "timer 2", n, n.Timeout(node.Timer{Height: 1, Which: 2}), voted(2, 1, 0, 0, api.Hash{}))
	// A mark of a height above: nothing is signed at all, and nothing restored.
	d = fresh(t)
	s = signerOn(t, d, 0)
	s.Sign(mark(2, 3, 3), []byte("text"), nil)
	n = opened(t, 1, 0, d)
	says(t, "Start below", n, n.Start(), "", [2]int{0, 1}, [2]int{0, 4})
}
