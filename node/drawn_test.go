package node_test

import (
	"fmt"
	"math/rand/v2"
	"slices"
	"testing"

	"conclave/api"
	"conclave/chain"
	"conclave/disk"
	"conclave/ed"
	"conclave/node"
	"conclave/word"
)

// member: a validator, and the plain one beside it, to which the same is done.
type member struct {
	me     int
	n      *node.Node
	p      *plain
	d      *disk.Disk
	alarms []alarm
	sent   []node.Send // over its life
	seen   uint64      // its height behind the last call
}

type alarm struct {
	at int
	node.Timer
}

type packet struct {
	from, to int
	data     []byte
}

// world: members that hand each other what they send, and marked ones, of whom just comes what is drawn.
type world struct {
	t       *testing.T
	r       *rand.Rand
	g       api.Genesis
	members []*member
	marked  []int
	flight  []packet
	blocks  []api.Hash // that were proposed
	now     int
	nonces  [senders]uint64
	met     map[string]int
}

func newWorld(t *testing.T, r *rand.Rand, n, marks int, met map[string]int) *world {
	w := &world{t: t, r: r, g: genesis(n), met: met, marked: r.Perm(n)[:marks]}
	for me := range n {
		w.members = append(w.members, nil)
		if slices.Contains(w.marked, me) {
			continue
		}
		d := fresh(t)
		w.members[me] = &member{me: me, d: d, n: opened(t, n, me, d), p: newPlain(w.g, me, seed(me))}
	}
	return w
}

func (w *world) honest() []*member {
	return slices.DeleteFunc(slices.Clone(w.members), func(m *member) bool { return m == nil })
}

func (w *world) any() *member {
	l := w.honest()
	return l[w.r.IntN(len(l))]
}

// done: what a call answered is what the plain one's did, and it is done.
func (w *world) done(m *member, what string, got, want node.Act) {
	w.t.Helper()
	if !alike(got, want) {
		w.t.Fatalf("%s at %d: %s, not %s", what, m.me, told(got), told(want))
	}
	var heights []uint64 // to be looked at
	if h := m.n.Height(); h > m.seen || w.r.IntN(40) == 0 {
		heights = []uint64{h, uint64(w.r.IntN(int(h) + 2))}
	}
	m.seen = m.n.Height()
	m.p.holds(w.t, what, m.n, heights...)
	for _, t := range got.Timers {
		m.alarms = append(m.alarms, alarm{w.now + t.Delay, t})
	}
	again := len(got.Timers) == 1 && got.Timers[0].Which == 4 // most of these get lost, lest there is nothing else
	for _, s := range got.Sends {
		m.sent = append(m.sent, s)
		if s.Data[0] == node.KProposal && !again {
			w.blocks = append(w.blocks, chain.Hash(proposalOf(w.t, s.Data).Block))
		}
		for to := range w.members {
			if to != m.me && (s.To == -1 || s.To == to) && (!again || w.r.IntN(2) == 0) {
				w.flight = append(w.flight, packet{m.me, to, s.Data})
			}
		}
	}
}

func (w *world) start(m *member) { w.done(m, "Start", m.n.Start(), m.p.start()) }

func (w *world) hand(m *member, from int, data []byte) {
	w.done(m, "Handle of "+named(data), m.n.Handle(from, data), m.p.handle(data))
}

func (w *world) ring(m *member, t node.Timer) {
	w.done(m, fmt.Sprint("Timeout of ", t), m.n.Timeout(t), m.p.timeout(t))
}

func (w *world) submit(m *member, b []byte) {
	got, err := m.n.Submit(b)
	want, wantErr := m.p.submit(b)
	if err != wantErr {
		w.t.Fatalf("Submit at %d: %d, not %d", m.me, err, wantErr)
	}
	w.met[fmt.Sprint("submit ", int(err))]++
	w.done(m, "Submit", got, want)
}

func (w *world) apply(m *member, b api.Block, c api.Commit) {
	got, err := m.n.Apply(b, c)
	want, wantErr := m.p.apply(b, c)
	if err != wantErr {
		w.t.Fatalf("Apply at %d: %d, not %d", m.me, err, wantErr)
	}
	w.met[fmt.Sprint("apply ", int(err))]++
	w.done(m, "Apply", got, want)
}

// restart: the machine is down and up again; between two calls all is safe.
func (w *world) restart(m *member) {
	m.d.Boot(nil)
	if s := m.p.machine.State(); s.Step > 0 {
		w.met[fmt.Sprint("restart at step ", s.Step, " locked ", s.Locked >= 0)]++
	}
	m.n = opened(w.t, len(w.members), m.me, m.d)
	m.p.reopen()
	m.alarms = nil
	if w.r.IntN(3) > 0 {
		w.start(m)
	} else {
		w.met["late start"]++
		m.alarms = append(m.alarms, alarm{w.now + 20, node.Timer{Height: m.n.Height() + 1, Which: 5}})
	}
}

// deliver: a packet, which may stay on its way.
func (w *world) deliver(i int, stays bool) {
	p := w.flight[i]
	if !stays {
		w.flight = slices.Delete(w.flight, i, i+1)
	}
	if m := w.members[p.to]; m != nil {
		w.hand(m, p.from, p.data)
	}
}

// tick: the alarms of the next moment at which there is one.
func (w *world) tick() {
	next := -1
	for _, m := range w.honest() {
		for _, a := range m.alarms {
			if next < 0 || a.at < next {
				next = a.at
			}
		}
	}
	w.now = max(w.now, next)
	for _, m := range w.honest() {
		for {
			i := slices.IndexFunc(m.alarms, func(a alarm) bool { return a.at <= w.now })
			if i < 0 {
				break
			}
			a := m.alarms[i]
			m.alarms = slices.Delete(m.alarms, i, i+1)
			w.met[fmt.Sprint("timer ", a.Which)]++
			w.ring(m, a.Timer)
		}
	}
}

// settle: all packets are delivered, in order.
func (w *world) settle() {
	for many := 0; len(w.flight) > 0 && many < 200; many++ {
		w.deliver(0, false)
	}
}

// payment: a transaction, mostly one that can be carried out.
func (w *world) payment() []byte {
	i := w.r.IntN(senders)
	nonce := w.nonces[i]
	switch w.r.IntN(8) {
	case 0:
		nonce = uint64(w.r.IntN(int(nonce) + 3))
	default:
		w.nonces[i]++
	}
	x := api.Tx{Nonce: nonce, Price: uint64(w.r.IntN(3)), Gas: 100000, To: address(1 + w.r.IntN(5)), Value: word.Of(uint64(w.r.IntN(100)))}
	switch w.r.IntN(6) {
	case 0:
		x.To, x.Value = address(counter), api.Word{}
	case 1:
		x.Data = make([]byte, w.r.IntN(3000))
	case 2:
		x.Create, x.Data = true, []byte{0x60, 0xfe, 0x60, 0, 0x53, 0x60, 1, 0x60, 0, 0xf3} // a contract with the code fe
	case 3:
		x.Value = word.Of(2 * rich)
	}
	return signed(i, x)
}

// forged: a message of one that is marked, of about the height of a member.
func (w *world) forged(m *member) []byte {
	by := w.marked[w.r.IntN(len(w.marked))]
	h := m.n.Height() + uint64(w.r.IntN(3))
	if h == 0 {
		h = 1
	}
	round := w.r.IntN(4)
	if w.r.IntN(2) == 0 {
		for chain.Proposer(h, round, len(w.members)) != by {
			round++
		}
		b := next(m.n, len(w.members), round, w.payment())
		b.Height = h
		if w.r.IntN(3) == 0 {
			b.State[3]++
		}
		w.blocks = append(w.blocks, chain.Hash(b))
		return proposalBy(by, round, w.r.IntN(round+1)-1, b)
	}
	return voteBy(by, 1+w.r.IntN(2), h, round, w.hash())
}

// hash: of a block that was proposed lately, or of none.
func (w *world) hash() api.Hash {
	if len(w.blocks) == 0 || w.r.IntN(4) == 0 {
		return api.Hash{}
	}
	last := w.blocks[max(0, len(w.blocks)-3):]
	return last[w.r.IntN(len(last))]
}

// spoiled: a message of which a byte is another one, or an end is cut off, or anything.
func (w *world) spoiled() []byte {
	if len(w.flight) == 0 || w.r.IntN(4) == 0 {
		b := make([]byte, w.r.IntN(50))
		for i := range b {
			b[i] = byte(w.r.IntN(256))
		}
		if len(b) > 0 {
			b[0] %= 6
		}
		return b
	}
	b := slices.Clone(w.flight[w.r.IntN(len(w.flight))].data)
	if w.r.IntN(4) == 0 {
		return b[:w.r.IntN(len(b))]
	}
	b[w.r.IntN(len(b))] ^= byte(1 + w.r.IntN(255))
	return b
}

// step: something that may happen. A storm loses and doubles packets.
func (w *world) step(storm int) {
	m := w.any()
	switch k := w.r.IntN(200); {
	case k < 140 && len(w.flight) > 0:
		i := w.r.IntN(min(len(w.flight), 12))
		if w.r.IntN(100) < storm {
			w.met["lost"]++
			w.flight = slices.Delete(w.flight, i, i+1)
			return
		}
		w.deliver(i, w.r.IntN(100) < storm)
	case k < 150:
		w.tick()
	case k < 154:
		w.settle()
	case k < 166:
		w.submit(m, w.payment())
	case k < 174:
		w.hand(m, w.r.IntN(20)-3, w.spoiled())
	case k < 184 && len(w.marked) > 0:
		w.met["forged"]++
		w.hand(m, w.r.IntN(3), w.forged(m))
	case k < 187:
		w.restart(m)
	case k < 193:
		other := w.any()
		if b, c, there := other.n.At(m.n.Height() + uint64(w.r.IntN(3))); there {
			w.apply(m, b, c)
		}
	case k < 197:
		w.ring(m, node.Timer{Height: m.n.Height() + uint64(w.r.IntN(3)), Round: w.r.IntN(3), Which: w.r.IntN(8) - 1, Delay: w.r.IntN(9)})
	case k < 199:
		w.start(m)
	}
	if len(w.flight) > 300 {
		w.flight = w.flight[200:]
	}
}

// agrees: no two have two blocks of one height.
func (w *world) agrees() {
	for _, a := range w.honest() {
		for _, b := range w.honest() {
			for h := uint64(1); h <= min(a.n.Height(), b.n.Height()); h++ {
				x, _, _ := a.n.At(h)
				y, _, _ := b.n.At(h)
				if chain.Hash(x) != chain.Hash(y) {
					w.t.Fatalf("%d and %d have two blocks of height %d", a.me, b.me, h)
				}
			}
		}
	}
}

// once: what a member sent over its life has no two texts for one height, round and step, and each holds.
func (m *member) once(t *testing.T, g api.Genesis) {
	t.Helper()
	onceOf(t, g, m.me, m.sent)
}

type place struct {
	height      uint64
	round, step int
}

func onceOf(t *testing.T, g api.Genesis, me int, sent []node.Send) {
	t.Helper()
	texts := map[place]string{}
	for _, s := range sent {
		var at place
		var text []byte
		var sig api.Sig
		switch s.Data[0] {
		case node.KProposal:
			p := proposalOf(t, s.Data)
			if p.By != me {
				continue
			}
			at, text, sig = place{p.Height, p.Round, 1}, chain.ProposalBytes(g.Chain, p), p.Sig
		case node.KVote:
			v := voteOf(t, s.Data)
			if v.By != me {
				continue
			}
			at, text, sig = place{v.Height, v.Round, v.Kind + 1}, chain.VoteBytes(g.Chain, v), v.Sig
		default:
			continue
		}
		if was, met := texts[at]; met && was != string(text) {
			t.Fatalf("%d signed two texts at %v", me, at)
		}
		texts[at] = string(text)
		if !ed.Verify(g.Keys[me], text, sig) {
			t.Fatalf("a signature of %d at %v does not hold", me, at)
		}
	}
}

// Nodes of one genesis hand each other what they send, lost, doubled, late, and from marked ones whatever comes: each call answers what the chapter's words say. (P1902, P1903, P1904, P1905, P1906)
func TestDrawn(t *testing.T) {
	t.Parallel()
	mets := make([]map[string]int, 28)
	t.Run("worlds", func(t *testing.T) {
		for i := range mets {
			mets[i] = map[string]int{}
			t.Run(fmt.Sprint(i), func(t *testing.T) {
				t.Parallel()
				drawnWorld(t, i, mets[i])
			})
		}
	})
	met := map[string]int{}
	for _, m := range mets {
		for what, many := range m {
			met[what] += many
		}
	}
	for _, what := range []string{
		"heights of 1", "heights of 2", "heights of 4", "heights of 7", "heights with marked", "forged", "lost", "late start",
		"timer 1", "timer 2", "timer 3", "timer 4", "timer 5", "submit 0", "submit 61", "apply 0", "apply 70",
		"restart at step 1 locked false", "restart at step 1 locked true", "restart at step 2 locked true", "restart at step 3 locked true",
	} {
		if met[what] < 3 {
			t.Errorf("met %s %d times", what, met[what])
		}
	}
	t.Log(met)
}

func drawnWorld(t *testing.T, i int, met map[string]int) {
	r := rand.New(rand.NewPCG(19, uint64(i)))
	n := []int{1, 2, 3, 4, 4, 5, 7}[i%7]
	marks := 0
	if i%2 == 1 {
		marks = (n - 1) / 3
	}
	w := newWorld(t, r, n, marks, met)
	for _, m := range w.honest() {
		if r.IntN(4) > 0 {
			w.start(m)
		} else {
			m.alarms = append(m.alarms, alarm{10 + r.IntN(40), node.Timer{Height: 1, Which: 5}})
		}
	}
	storm := []int{0, 10, 30}[i%3]
	for range min(60+100*n, 600) {
		w.step(storm)
	}
	w.agrees()
	highest := uint64(0)
	for _, m := range w.honest() {
		m.once(t, w.g)
		highest = max(highest, m.n.Height())
		for h := range m.n.Height() + 2 {
			m.p.holdsAt(t, "at last", m.n, h)
		}
	}
	met[fmt.Sprint("heights of ", n)] += int(highest)
	if marks > 0 {
		met["heights with marked"] += int(highest)
	}
}
