package bft_test

import (
	"fmt"
	"math/rand/v2"
	"slices"
	"testing"

	"conclave/api"
	"conclave/bft"
	"conclave/chain"
)

// seat: of a vote that was given to a machine.
type seat struct {
	kind, round int
	hash        api.Hash
}

// life: of a validator through several machines, each restored from what was saved as it voted last; and all that was given to it.
type life struct {
	s        *script
	given    map[seat]map[int]bool // who gave such a vote
	prevoted int                   // the last round in which it did; -1: none
	voted    int                   // so with precommits
	lock     api.Hash              // for what it precommitted last
	locked   int                   // in which round
	note     []byte
}

func (l *life) enough(kind, round int, h api.Hash) bool {
	return 3*len(l.given[seat{kind, round, h}]) > 2*l.s.n
}

// allowed: another block than the lock's may be prevoted.
func (l *life) allowed(h api.Hash, round int) bool {
	for r := l.locked; r < round; r++ {
		if l.enough(api.Prevote, r, h) {
			return true
		}
	}
	return false
}

// tells: what the promise says of it.
func (l *life) tells(t *testing.T, o bft.Out) {
	none := api.Hash{}
	if o.Hash == hash(l.s.tags) {
		t.Errorf("%v: told of a block that is not right: %s", l.s, seen(o))
	}
	switch o.Kind {
	case bft.Prevote:
		if o.Round <= l.prevoted || o.Round < l.voted {
			t.Errorf("%v: prevotes in %d behind %d", l.s, o.Round, l.prevoted)
		}
		l.prevoted = o.Round
		if o.Hash != none && l.lock != none && o.Hash != l.lock && !l.allowed(o.Hash, o.Round) {
			t.Errorf("%v: locked on %s in %d, but %s", l.s, tag(l.lock), l.locked, seen(o))
		}
		if o.Hash != none && l.lock != none && o.Hash != l.lock {
			l.s.met["let go"]++
		}
	case bft.Precommit:
		if o.Round <= l.voted || o.Round < l.prevoted {
			t.Errorf("%v: precommits in %d behind %d", l.s, o.Round, l.voted)
		}
		l.voted = o.Round
		if o.Hash != none && !l.enough(api.Prevote, o.Round, o.Hash) {
			t.Errorf("%v: precommits without prevotes: %s", l.s, seen(o))
		}
		if o.Hash != none {
			l.lock, l.locked = o.Hash, o.Round
			l.s.met["locks"]++
		}
	case bft.Commit:
		if !l.enough(api.Precommit, o.Round, o.Hash) {
			t.Errorf("%v: commits without precommits: %s", l.s, seen(o))
		}
		l.s.met["commits"]++
	}
}

// step: one call of a machine that is started, or its end and the next one.
func (l *life) step(t *testing.T) {
	s := l.s
	var told []bft.Out
	switch k := s.r.IntN(40); {
	case k == 0:
		s.m = madeBy(t, s.n, s.p.me, s.mayFollow)
		if l.note != nil {
			is(t, "Restore", s.m.Restore(l.note), api.OK)
		}
		s.log = append(s.log, "Restore, Start")
		told = s.m.Start()
	case k < 6:
		now := s.m.State()
		which := []int{1, 2, 3, now.Step}[s.r.IntN(4)]
		s.log = append(s.log, fmt.Sprint("Timeout ", which, " ", now.Round))
		told = s.m.Timeout(which, now.Round)
	case k < 12:
		p := s.drawProposal()
		s.log = append(s.log, fmt.Sprint("Propose ", p.Round, " ", p.Valid, " ", seenBlock(p.Block)))
		told = s.m.Propose(p)
		s.p.propose(p) // so that votes are drawn for it
	default:
		v := s.drawVote()
		s.log = append(s.log, fmt.Sprint("Vote ", v.Kind, " ", v.Round, " ", v.By, " ", tag(v.Block)))
		at := seat{v.Kind, v.Round, v.Block}
		if v.Height == tall && v.By >= 0 && v.By < s.n {
			if l.given[at] == nil {
				l.given[at] = map[int]bool{}
			}
			l.given[at][v.By] = true
		}
		told = s.m.Vote(v)
	}
	for _, o := range told {
		l.tells(t, o)
		if o.Kind == bft.Prevote || o.Kind == bft.Precommit {
			l.note = s.m.Save()
		}
	}
	s.p.round = s.m.State().Round // where the next votes are drawn
}

// P1805: over drawn scripts in which validators vote twice, through all that a validator is restored to.
func TestSafe(t *testing.T) {
	r := rand.New(rand.NewPCG(18, 6))
	met := map[string]int{}
	for range 3500 {
		s := newScript(t, r, met)
		l := &life{s: s, given: map[seat]map[int]bool{}, prevoted: -1, voted: -1}
		s.m.Start()
		for range 40 + r.IntN(150) {
			l.step(t)
		}
	}
	for _, want := range []string{"let go", "locks", "commits"} {
		if met[want] < 100 {
			t.Errorf("too few draws met %q: %v", want, met)
		}
	}
}

// P1806: messages that come again, at once or later, tell nothing and change nothing, whatever their signatures.
func TestAgain(t *testing.T) {
	r := rand.New(rand.NewPCG(18, 7))
	for range 300 {
		s := newScript(t, r, map[string]int{})
		once, often := s.m, madeBy(t, s.n, s.p.me, s.mayFollow)
		once.Start()
		often.Start()
		var before []message
		for range 100 {
			if r.IntN(8) == 0 {
				now := once.State()
				which := []int{1, 2, 3, now.Step}[r.IntN(4)]
				says(t, "Timeout", often.Timeout(which, now.Round), seenAll(once.Timeout(which, now.Round)))
			} else {
				x := message{}
				if r.IntN(5) == 0 {
					p := s.drawProposal()
					s.p.propose(p)
					x.proposal = &p
				} else {
					v := s.drawVote()
					x.vote = &v
				}
				before = append(before, x)
				says(t, "a message", comes(often, x), seenAll(comes(once, x)))
			}
			for range r.IntN(4) {
				if len(before) > 0 {
					says(t, "again", comes(often, signedAnew(r, before[r.IntN(len(before))])), "")
				}
			}
			if once.State() != often.State() || !slices.Equal(once.Save(), often.Save()) {
				t.Fatalf("%s, but %s", seenState(once.State()), seenState(often.State()))
			}
			s.p.round = once.State().Round
		}
		for _, x := range before {
			if x.vote != nil {
				v := *x.vote
				if got, want := fmt.Sprint(often.Votes(v.Kind, v.Round, v.Block)), fmt.Sprint(once.Votes(v.Kind, v.Round, v.Block)); got != want {
					t.Fatalf("votes: %s, not %s", got, want)
				}
			}
		}
	}
}

// comes: a message, to a machine.
func comes(m *bft.Machine, x message) []bft.Out {
	if x.proposal != nil {
		return m.Propose(*x.proposal)
	}
	return m.Vote(*x.vote)
}

// signedAnew: the same message, maybe with another signature.
func signedAnew(r *rand.Rand, x message) message {
	sig := api.Sig{byte(r.IntN(256))}
	if x.proposal != nil {
		p := *x.proposal
		p.Sig = sig
		return message{proposal: &p}
	}
	v := *x.vote
	v.Sig = sig
	return message{vote: &v}
}

// P1806: where each round has one proposal, whether a machine has committed hangs on what came, not on the order or the timers in between.
func TestOrder(t *testing.T) {
	r := rand.New(rand.NewPCG(18, 8))
	met := map[bool]int{}
	for range 300 {
		n := 1 + r.IntN(7)
		var all []message
		for round := range 3 {
			p := proposal(n, round, r.IntN(round+1)-1, 1+r.IntN(2))
			all = append(all, message{proposal: &p})
			for range 3 * n {
				v := prevote(round, r.IntN(n), r.IntN(3))
				v.Kind = 1 + r.IntN(2)
				if r.IntN(2) == 0 {
					v.Block = chain.Hash(p.Block)
				}
				all = append(all, message{vote: &v})
			}
		}
		want := ""
		for try := range 4 {
			m := made(t, n, r.IntN(n))
			if try > 0 {
				m.Start()
			}
			for _, i := range r.Perm(len(all)) {
				comes(m, all[i])
				if r.IntN(10) == 0 {
					m.Timeout(1+r.IntN(3), m.State().Round)
				}
			}
			m.Start()
			got := fmt.Sprint(m.State().Done)
			for round := range 3 {
				for tag := range 3 {
					got += fmt.Sprint(len(m.Votes(1, round, hash(tag))), len(m.Votes(2, round, hash(tag))))
				}
			}
			if try > 0 && got != want {
				t.Errorf("n %d: %s, not %s", n, got, want)
			}
			want = got
			met[m.State().Done]++
		}
	}
	if met[true] < 100 || met[false] < 100 {
		t.Errorf("too few draws: %v", met)
	}
}
