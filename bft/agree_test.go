package bft_test

import (
	"fmt"
	"math/rand/v2"
	"slices"
	"testing"

	"conclave/api"
	"conclave/bft"
	"conclave/chain"
)

// message: a proposal or a vote.
type message struct {
	proposal *api.Proposal
	vote     *api.Vote
}

// key: two messages of one key are one.
type key struct {
	api.Vote
	valid int
}

func (x message) key() key {
	if x.proposal != nil {
		return key{api.Vote{Round: x.proposal.Round, Block: chain.Hash(x.proposal.Block)}, x.proposal.Valid}
	}
	return key{Vote: *x.vote}
}

type packet struct {
	from, to int
	message
}

type alarm struct{ at, which, round int }

// again: the alarm by which a member sends all that it has heard again.
const again = 4

// member: a validator, for one height: a machine, and what signs and sends for it.
type member struct {
	me     int
	m      *bft.Machine
	marks  [][2]int // for which it signed, by round and step
	note   []byte   // with the last of them
	heard  []message
	known  map[key]bool
	alarms []alarm
	block  *api.Hash // that it has committed
	deaf   int       // what it does not hear, as long as there is a storm: precommits, votes, all
	cut    bool      // so long nobody hears it, nor it anybody
}

// world: members of one height, and those marked, of whom just what is injected comes.
type world struct {
	t       *testing.T
	r       *rand.Rand
	n       int
	members []*member // none for one marked
	flight  []packet
	now     int
	blocks  []api.Block // all that were proposed
	live    bool        // from now on nobody crashes
	apart   bool        // two have committed two blocks
	met     map[string]int
}

func newWorld(t *testing.T, r *rand.Rand, n, marked int, met map[string]int) *world {
	w := &world{t: t, r: r, n: n, met: met}
	for me := range n {
		w.members = append(w.members, &member{me: me})
	}
	for _, i := range r.Perm(n)[:marked] {
		w.members[i] = nil
	}
	for _, x := range w.honest() {
		w.restart(x)
	}
	return w
}

// honest: all that are not marked.
func (w *world) honest() []*member {
	return slices.DeleteFunc(slices.Clone(w.members), func(x *member) bool { return x == nil })
}

// restart: what was signed last is all that it knows.
func (w *world) restart(x *member) {
	x.m, _ = bft.New(w.n, x.me, tall, func(b api.Block) bool { return b.State == api.Hash{} })
	x.alarms, x.heard, x.known = nil, nil, map[key]bool{}
	if x.note != nil {
		is(w.t, "Restore", x.m.Restore(x.note), api.OK)
		s := x.m.State()
		for _, v := range x.m.Votes(api.Prevote, s.Valid, s.ValidHash) {
			x.hears(message{vote: &v})
		}
	}
	x.alarms = append(x.alarms, alarm{at: w.now + 25, which: again})
	w.does(x, x.m.Start())
}

func (x *member) hears(y message) {
	if k := y.key(); !x.known[k] {
		x.known[k] = true
		x.heard = append(x.heard, y)
	}
}

// does: what a machine tells, one behind the other; what is told behind a crash is lost.
func (w *world) does(x *member, told []bft.Out) {
	for _, o := range told {
		if x.block != nil {
			return
		}
		if !w.live && w.r.IntN(150) == 0 {
			w.met["crashed in the midst"]++
			w.restart(x)
			return
		}
		m := x.m
		switch o.Kind {
		case bft.Timer:
			delay := map[int]int{1: 30, 2: 10, 3: 10}[o.Which] + 10*o.Round
			x.alarms = append(x.alarms, alarm{w.now + delay, o.Which, o.Round})
		case bft.Commit:
			w.commits(x, o)
		default:
			w.signs(x, o)
		}
		if x.m != m { // it has crashed meanwhile
			return
		}
	}
}

// signs: what was signed is noted ahead of sending it, so no life tells something for a mark that is not above all others.
func (w *world) signs(x *member, o bft.Out) {
	mark := [2]int{o.Round, o.Kind}
	if len(x.marks) > 0 && slices.Compare(x.marks[len(x.marks)-1][:], mark[:]) >= 0 {
		w.t.Errorf("told for %v, but signed for %v", mark, x.marks)
		return
	}
	x.marks, x.note = append(x.marks, mark), x.m.Save()
	y := message{}
	if o.Kind == bft.Propose {
		b := o.Block
		if !o.Has {
			b = w.newBlock(x.me, o.Round)
		}
		y.proposal = &api.Proposal{Height: tall, Round: o.Round, Valid: o.Valid, Block: b, By: x.me}
	} else {
		y.vote = &api.Vote{Kind: o.Kind - 1, Height: tall, Round: o.Round, Block: o.Hash, By: x.me}
	}
	for i := range w.members {
		if i != x.me {
			w.flight = append(w.flight, packet{x.me, i, y})
		}
	}
	w.gets(x, y)
}

// newBlock: one that nobody proposed yet.
func (w *world) newBlock(by, round int) api.Block {
	b := api.Block{Height: tall, Prev: api.Hash{byte(len(w.blocks)), byte(len(w.blocks) >> 8)}, Proposer: by, Round: round}
	w.blocks = append(w.blocks, b)
	return b
}

func (w *world) commits(x *member, o bft.Out) {
	if chain.Hash(o.Block) != o.Hash {
		w.t.Errorf("committed: another block than its hash")
	}
	for _, y := range w.honest() {
		if y.block != nil && *y.block != o.Hash {
			w.apart = true
		}
	}
	x.block = &o.Hash
	x.cut = w.r.IntN(4) > 0 // mostly others do not hear of it
	x.alarms = slices.DeleteFunc(x.alarms, func(a alarm) bool { return a.which != again })
	w.met[fmt.Sprint("committed behind round 0 ", o.Round > 0)]++
}

// gets: a message comes.
func (w *world) gets(x *member, y message) {
	x.hears(y)
	if y.proposal != nil {
		w.does(x, x.m.Propose(*y.proposal))
	} else {
		w.does(x, x.m.Vote(*y.vote))
	}
}

// deliver: a packet that is drawn; it may be lost, or come again later.
func (w *world) deliver(doubled bool) {
	i := w.r.IntN(len(w.flight))
	p := w.flight[i]
	if !doubled {
		w.flight[i] = w.flight[len(w.flight)-1]
		w.flight = w.flight[:len(w.flight)-1]
	}
	x := w.members[p.to]
	if x != nil && (w.live || !w.lost(x, p)) {
		w.gets(x, p.message)
	}
}

// lost: some packets are, in a storm.
func (w *world) lost(x *member, p packet) bool {
	switch {
	case x.cut, w.members[p.from].cut, x.deaf == 3, w.r.IntN(8) == 0:
		return true
	case x.deaf == 2:
		return p.vote != nil
	case x.deaf == 1:
		return p.vote != nil && p.vote.Kind == api.Precommit
	}
	return false
}

// rings: an alarm of a member.
func (w *world) rings(x *member, i int) {
	a := x.alarms[i]
	x.alarms = slices.Delete(x.alarms, i, i+1)
	if a.which != again {
		w.does(x, x.m.Timeout(a.which, a.round))
		return
	}
	if x.block != nil && w.live {
		w.handsOn(x)
	}
	for _, y := range x.heard {
		for i := range w.members {
			if i != x.me {
				w.flight = append(w.flight, packet{x.me, i, y})
			}
		}
	}
	x.alarms = append(x.alarms, alarm{at: w.now + 25, which: again})
}

// handsOn: who has committed lets the others have the block, with its commit: they may have kept another proposal of that round.
func (w *world) handsOn(x *member) {
	for _, y := range w.honest() {
		if y.block == nil {
			y.block = x.block
			w.met["caught up"]++
		}
	}
}

// inject: something of one marked to somebody: votes for what that one waits for, or for anything, and proposals, others to others.
func (w *world) inject() {
	by := w.r.IntN(w.n)
	if w.members[by] != nil {
		return
	}
	to := w.honest()[w.r.IntN(len(w.honest()))]
	if to.cut && !w.live {
		return
	}
	round := max(0, to.m.State().Round+w.r.IntN(4)-1)
	if w.r.IntN(2) == 0 {
		round = to.m.State().Round
	}
	y := message{}
	if chain.Proposer(tall, round, w.n) == by && w.r.IntN(2) == 0 {
		y.proposal = &api.Proposal{Height: tall, Round: round, Valid: w.r.IntN(round+1) - 1, Block: w.drawBlock(by, round), By: by}
		if w.r.IntN(2) == 0 {
			y.proposal.Valid = -1
		}
	} else {
		y.vote = &api.Vote{Kind: 1 + w.r.IntN(2), Height: tall, Round: round, By: by}
		if w.r.IntN(8) > 0 {
			y.vote.Block = w.wanted(to, round)
		}
	}
	w.gets(to, y)
}

// drawBlock: mostly the newest one; some are not right.
func (w *world) drawBlock(by, round int) api.Block {
	i := len(w.blocks) - 1
	if i < 0 || w.blocks[i].Round != round && w.r.IntN(2) == 0 || w.r.IntN(8) == 0 {
		return w.newBlock(by, round)
	}
	b := w.blocks[max(0, i-w.r.IntN(4)*w.r.IntN(2))]
	if w.r.IntN(10) == 0 {
		b.State[0] = 1
	}
	return b
}

// wanted: the block of the round's proposal that somebody has, or any one.
func (w *world) wanted(x *member, round int) api.Hash {
	for _, y := range x.heard {
		if y.proposal != nil && y.proposal.Round == round && w.r.IntN(8) > 0 {
			return chain.Hash(y.proposal.Block)
		}
	}
	if len(w.blocks) == 0 {
		return api.Hash{}
	}
	return chain.Hash(w.blocks[w.r.IntN(len(w.blocks))])
}

// storm: one step in which anything may happen.
func (w *world) storm() {
	x := w.honest()[w.r.IntN(len(w.honest()))]
	switch k := w.r.IntN(100); {
	case k == 0 && x.block == nil:
		w.met["crashed"]++
		w.restart(x)
	case k < 3:
		x.deaf = max(0, w.r.IntN(7)-3)
	case k < 12 && len(x.alarms) > 0:
		if i := w.r.IntN(len(x.alarms)); x.alarms[i].which != again || w.r.IntN(10) == 0 {
			w.rings(x, i)
		}
	case k < 60:
		w.inject()
	case len(w.flight) > 0:
		w.deliver(w.r.IntN(8) == 0)
	}
	if len(w.flight) > 600 {
		w.flight = w.flight[len(w.flight)-300:]
	}
}

// calm: all who have not committed restart, and from then on nothing is lost: whether all commit within a bound. Ahead of each tick some messages are injected.
func (w *world) calm(inject int) {
	w.live = true
	round := 0
	for _, x := range w.honest() {
		round = max(round, x.m.State().Round)
		if x.block == nil {
			w.restart(x)
		}
	}
	last := round + 2*w.n + 2
	bound := w.now + (last-round)*(60+30*last)
	for {
		for len(w.flight) > 0 {
			w.deliver(false)
		}
		for range w.r.IntN(1 + inject) {
			w.inject()
		}
		if !slices.ContainsFunc(w.honest(), func(x *member) bool { return x.block == nil }) {
			return
		}
		if w.now > bound {
			w.t.Errorf("n %d: not all have committed at %d: from round %d on", w.n, w.now, round)
			return
		}
		w.tick()
	}
}

// tick: to the next alarms, which ring.
func (w *world) tick() {
	next := w.now + 25
	for _, x := range w.honest() {
		for _, a := range x.alarms {
			next = min(next, a.at)
		}
	}
	w.now = max(w.now, next)
	for _, x := range w.honest() {
		for {
			i := slices.IndexFunc(x.alarms, func(a alarm) bool { return a.at <= w.now })
			if i < 0 {
				break
			}
			w.rings(x, i)
		}
	}
}

// P1 and P4, as far as the machines of one height decide them: whatever is delivered, lost, doubled, delayed, crashed, restarted and injected by less than a third, no two commit two blocks; and once nothing is lost any more, all commit within a bound.
func TestAgree(t *testing.T) {
	r := rand.New(rand.NewPCG(18, 4))
	met := map[string]int{}
	for i := range 1200 {
		n := []int{1, 2, 3, 4, 4, 4, 4, 5, 6, 7, 4, 4, 4, 4, 10}[i%15]
		w := newWorld(t, r, n, (n-1)/3, met)
		for range 200 + r.IntN(600*n) {
			w.storm()
		}
		w.calm(10 * r.IntN(2))
		if w.apart {
			t.Errorf("run %d, n %d: two blocks", i, n)
		}
	}
	for _, want := range []string{"crashed", "crashed in the midst", "committed behind round 0 true", "committed behind round 0 false"} {
		if met[want] < 30 {
			t.Errorf("too few draws met %q: %v", want, met)
		}
	}
}

// The runs above can tell: with a third of marked ones some of them end with two blocks.
func TestAgreeNot(t *testing.T) {
	r := rand.New(rand.NewPCG(18, 5))
	apart := 0
	for range 400 {
		w := newWorld(t, r, 4, 2, map[string]int{})
		for range 1500 {
			w.storm()
		}
		if w.apart {
			apart++
		}
	}
	if apart < 5 {
		t.Errorf("two blocks in %d runs alone", apart)
	}
}
