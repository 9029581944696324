package node_test

import (
	"fmt"
	"math/rand/v2"
	"slices"
	"testing"

	"conclave/api"
	"conclave/disk"
	"conclave/node"
)

// villager: a validator whose disk fails now and then.
type villager struct {
	me     int
	n      *node.Node
	d      *disk.Disk
	alarms []alarm
	sent   []node.Send // over its life
}

// village: validators of which each may be down at any step, and is up again behind it; packets get lost, doubled and late.
type village struct {
	t      *testing.T
	r      *rand.Rand
	g      api.Genesis
	all    []*villager
	flight []packet
	now    int
	calm   bool // nothing fails any more
	nonces [senders]uint64
	met    map[string]int
}

func newVillage(t *testing.T, r *rand.Rand, n int, met map[string]int) *village {
	v := &village{t: t, r: r, g: genesis(n), met: met}
	for me := range n {
		d := fresh(t)
		v.all = append(v.all, &villager{me: me, d: d, n: opened(t, n, me, d)})
	}
	for _, m := range v.all {
		v.did(m, m.n.Start())
	}
	return v
}

// did: what a call answered is done; if it has halted, the validator begins anew.
func (v *village) did(m *villager, a node.Act) {
	for _, t := range a.Timers {
		m.alarms = append(m.alarms, alarm{v.now + t.Delay, t})
	}
	again := len(a.Timers) == 1 && a.Timers[0].Which == 4
	for _, s := range a.Sends {
		m.sent = append(m.sent, s)
		for to := range v.all {
			if to != m.me && (!again || v.r.IntN(2) == 0) {
				v.flight = append(v.flight, packet{m.me, to, s.Data})
			}
		}
	}
	if m.n.Err() != api.OK {
		v.anew(m)
	}
	if !v.calm && v.r.IntN(30) == 0 {
		m.d.Arm([]disk.Fault{{At: 1 + v.r.IntN(9), Kind: 1 + v.r.IntN(3)}})
	}
}

// anew: the machine is down, and opened till that goes well.
func (v *village) anew(m *villager) {
	was := hashes(m.n)
	v.met[fmt.Sprint("halted by ", int(m.n.Err()))]++
	m.alarms = nil
	for try := 0; ; try++ {
		m.d.Boot(survive(v.r, m.d))
		if try < 5 && v.r.IntN(3) == 0 {
			m.d.Arm([]disk.Fault{{At: 1 + v.r.IntN(6), Kind: 1 + v.r.IntN(3)}})
		}
		n, err := node.Open(v.g, m.me, seed(m.me), m.d)
		if err != api.OK {
			v.met["refused"]++
			if err == api.ErrRot || try > 5 {
				v.t.Fatalf("Open: %d", err)
			}
			continue
		}
		m.n = n
		break
	}
	what := fmt.Sprint("validator ", m.me)
	lasts(v.t, what, was, m.n)
	v.met[fmt.Sprint("more blocks ", int(m.n.Height())-len(was))]++
	if v.r.IntN(8) == 0 {
		folds(v.t, what, v.g, m.n)
	}
	v.did(m, m.n.Start())
}

// deliver: a packet; whoever is behind by that gets the block that is missing.
func (v *village) deliver(i int, stays bool) {
	p := v.flight[i]
	if !stays {
		v.flight = slices.Delete(v.flight, i, i+1)
	}
	m := v.all[p.to]
	a := m.n.Handle(p.from, p.data)
	v.did(m, a)
	if a.Ahead > 0 {
		v.catchUp(m, v.all[p.from])
	}
}

func (v *village) catchUp(m, from *villager) {
	b, c, there := from.n.At(m.n.Height() + 1)
	if !there {
		return
	}
	a, err := m.n.Apply(b, c)
	if err != m.n.Err() {
		v.t.Fatalf("Apply: %d", err)
	}
	v.met["caught up"]++
	v.did(m, a)
}

// tick: the next moment at which there is an alarm.
func (v *village) tick() {
	next := -1
	for _, m := range v.all {
		for _, a := range m.alarms {
			if next < 0 || a.at < next {
				next = a.at
			}
		}
	}
	v.now = max(v.now, next)
	for _, m := range v.all {
		for {
			i := slices.IndexFunc(m.alarms, func(a alarm) bool { return a.at <= v.now })
			if i < 0 {
				break
			}
			a := m.alarms[i]
			m.alarms = slices.Delete(m.alarms, i, i+1)
			v.did(m, m.n.Timeout(a.Timer))
		}
	}
}

func (v *village) step() {
	switch k := v.r.IntN(100); {
	case k < 80 && len(v.flight) > 0:
		i := v.r.IntN(min(len(v.flight), 10))
		if v.r.IntN(10) == 0 {
			v.flight = slices.Delete(v.flight, i, i+1)
			return
		}
		v.deliver(i, v.r.IntN(12) == 0)
	case k < 88:
		v.tick()
	case k < 98:
		i := v.r.IntN(senders)
		a, _ := v.all[v.r.IntN(len(v.all))].n.Submit(pay(i, v.nonces[i], 1+v.r.IntN(4), 1))
		v.nonces[i] += uint64(v.r.IntN(2))
		for _, s := range a.Sends {
			v.flight = append(v.flight, packet{0, v.r.IntN(len(v.all)), s.Data})
		}
	default:
		v.anew(v.all[v.r.IntN(len(v.all))])
	}
	if len(v.flight) > 200 {
		v.flight = v.flight[100:]
	}
}

// rest: nothing fails any more, and all that is sent comes; each validator gets further. (P2 of the whole, as far as nodes decide it)
func (v *village) rest() {
	v.calm = true
	highest := uint64(0)
	for _, m := range v.all {
		m.d.Arm(nil)
		highest = max(highest, m.n.Height())
	}
	behind := func(m *villager) bool { return m.n.Height() < highest+2 }
	for round := 0; slices.ContainsFunc(v.all, behind); round++ {
		if round > 300 {
			v.t.Fatal("it stands still")
		}
		for many := 0; len(v.flight) > 0 && many < 2000; many++ {
			v.deliver(0, false)
		}
		v.tick()
	}
}

// Nodes whose disks are full, fail or are cut at any step, and that are opened behind it: what they had lasts, they agree, each signs once, and they go on. (P1906, P1907, P1908)
func TestVillages(t *testing.T) {
	t.Parallel()
	mets := make([]map[string]int, 20)
	t.Run("villages", func(t *testing.T) {
		for i := range mets {
			mets[i] = map[string]int{}
			t.Run(fmt.Sprint(i), func(t *testing.T) {
				t.Parallel()
				drawnVillage(t, i, mets[i])
			})
		}
	})
	met := map[string]int{}
	for _, m := range mets {
		for what, many := range m {
			met[what] += many
		}
	}
	for _, what := range []string{"halted by 0", "halted by 30", "halted by 31", "halted by 32", "refused", "more blocks 0", "more blocks 1", "caught up", "heights"} {
		if met[what] < 5 {
			t.Errorf("met %s %d times", what, met[what])
		}
	}
	t.Log(met)
}

func drawnVillage(t *testing.T, i int, met map[string]int) {
	n := []int{1, 2, 4, 4, 5}[i%5]
	v := newVillage(t, rand.New(rand.NewPCG(1907, uint64(i))), n, met)
	for range 300 {
		v.step()
	}
	v.rest()
	for _, a := range v.all {
		onceOf(t, v.g, a.me, a.sent)
		folds(t, fmt.Sprint("validator ", a.me), v.g, a.n)
		met["heights"] += int(a.n.Height())
		for _, b := range v.all {
			x, y := hashes(a.n), hashes(b.n)
			if least := min(len(x), len(y)); !slices.Equal(x[:least], y[:least]) {
				t.Fatalf("%d and %d have two chains", a.me, b.me)
			}
		}
	}
}
