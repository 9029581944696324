package bft_test

import (
	"fmt"
	"math"
	"math/rand/v2"
	"slices"
	"testing"

	"conclave/api"
	"conclave/bft"
	"conclave/chain"
)

// script: a machine and the chapter's words, which get the same drawn calls.
type script struct {
	r    *rand.Rand
	n    int
	tags int // of blocks that are drawn; the last one is not right
	mood int // how many of four votes are prevotes
	m    *bft.Machine
	p    *plain
	log  []string // all calls
	met  map[string]int
}

// String: all calls that there were.
func (s *script) String() string { return fmt.Sprintf("n %d, me %d: %q", s.n, s.p.me, s.log) }

// mayFollow: all blocks but one.
func (s *script) mayFollow(b api.Block) bool { return chain.Hash(b) != hash(s.tags) }

func (s *script) made(t *testing.T, me int) {
	s.m, s.p = madeBy(t, s.n, me, s.mayFollow), newPlain(s.n, me, tall, s.mayFollow)
}

func newScript(t *testing.T, r *rand.Rand, met map[string]int) *script {
	s := &script{r: r, n: 1 + r.IntN(api.MaxNodes), tags: 2 + r.IntN(3), mood: 1 + r.IntN(4), met: met}
	if r.IntN(2) == 0 {
		s.n = 1 + r.IntN(5)
	}
	s.made(t, r.IntN(s.n))
	return s
}

// round: one near the machine's, mostly its own.
func (s *script) round() int {
	now := s.p.round
	switch k := s.r.IntN(60); {
	case k == 0:
		return []int{-1, highest, highest + 1, math.MinInt, math.MaxInt, 1 << 32}[s.r.IntN(6)]
	case k < 40:
		return now
	case k < 50:
		return max(now-s.r.IntN(3), 0)
	}
	return min(now+s.r.IntN(4), highest)
}

func (s *script) drawVote() api.Vote {
	v := api.Vote{Kind: 2, Height: tall, Round: s.round(), By: s.r.IntN(s.n), Sig: api.Sig{byte(s.r.IntN(256))}}
	if s.r.IntN(4) < s.mood {
		v.Kind = 1
	}
	if x := s.p.proposal(v.Round); x != nil && s.r.IntN(3) > 0 && (v.Kind == 1 || s.r.IntN(s.mood+1) == 0) {
		v.Block = chain.Hash(x.Block)
	} else {
		v.Block = hash(s.r.IntN(s.tags + 1))
	}
	if x := s.p.proposal(s.p.round); x != nil && x.Valid >= 0 && s.r.IntN(3) == 0 { // by which it may be prevoted
		v.Kind, v.Round, v.Block = 1, x.Valid, chain.Hash(x.Block)
	}
	switch s.r.IntN(80) {
	case 0:
		v.Kind = []int{0, 3, -1, math.MaxInt}[s.r.IntN(4)]
	case 1:
		v.Height = []uint64{0, tall - 1, tall + 1, math.MaxUint64}[s.r.IntN(4)]
	case 2:
		v.By = []int{-1, s.n, math.MaxInt, math.MinInt}[s.r.IntN(4)]
	}
	return v
}

func (s *script) drawProposal() api.Proposal {
	round := s.round()
	p := proposal(s.n, max(0, min(round, highest)), -1, 1+s.r.IntN(s.tags))
	p.Round = round
	if p.Round > 0 && s.r.IntN(2) == 0 {
		p.Valid = max(-1, min(p.Round, s.p.round+1)-1-s.r.IntN(3))
	}
	switch s.r.IntN(60) {
	case 0:
		p.Valid = []int{-2, p.Round, math.MinInt, math.MaxInt}[s.r.IntN(4)]
	case 1:
		p.By = []int{-1, s.n, s.r.IntN(s.n)}[s.r.IntN(3)]
	case 2:
		p.Height = []uint64{0, tall + 1}[s.r.IntN(2)]
	case 3:
		p.Block.Height = []uint64{0, tall + 1}[s.r.IntN(2)]
	case 4:
		p.Block.Proposer = -1
	}
	return p
}

// call: one that is drawn, of the machine and of the words.
func (s *script) call(t *testing.T) (string, []bft.Out, []bft.Out) {
	switch k := s.r.IntN(40); {
	case k == 0:
		return "Start", s.m.Start(), s.p.start()
	case k < 4:
		which, round := []int{1, 2, 3, s.p.step}[s.r.IntN(4)], s.p.round
		if s.r.IntN(8) == 0 {
			which, round = []int{-1, 0, 4, math.MaxInt}[s.r.IntN(4)], s.round()
		}
		return fmt.Sprint("Timeout ", which, " ", round), s.m.Timeout(which, round), s.p.timeout(which, round)
	case k < 10:
		p := s.drawProposal()
		return fmt.Sprint("Propose ", p.Round, " ", p.Valid, " ", seenBlock(p.Block)), s.m.Propose(p), s.p.propose(p)
	case k == 10 && s.r.IntN(2) == 0:
		s.again(t)
		return "Restore, Start", s.m.Start(), s.p.start()
	}
	v := s.drawVote()
	return fmt.Sprint("Vote ", v.Kind, " ", v.Round, " ", v.By, " ", tag(v.Block)), s.m.Vote(v), s.p.takeVote(v)
}

// again: the machine is saved, and another one restored, which is to go on; some messages come to it ahead of that.
func (s *script) again(t *testing.T) {
	b, me := s.m.Save(), s.p.me
	s.made(t, me)
	for range s.r.IntN(4) {
		v := s.drawVote()
		s.m.Vote(v)
		s.p.takeVote(v)
	}
	is(t, "Restore", s.m.Restore(b), api.OK)
	if !s.p.restore(b) {
		t.Fatalf("the words do not restore %x", b)
	}
	s.met["restored"]++
	if s.p.valid.block != nil {
		s.met["restored with a valid block"]++
	}
}

// step: one call, after which all is alike.
func (s *script) step(t *testing.T) {
	what, got, want := s.call(t)
	s.log = append(s.log, what)
	if seenAll(got) != seenAll(want) {
		t.Fatalf("%v: told %q, not %q", s, seenAll(got), seenAll(want))
	}
	alike(t, s, s.m, s.p)
	for _, o := range want {
		s.met[fmt.Sprint("told ", o.Kind, " ", o.Which, " ", o.Hash != api.Hash{})]++
	}
	if s.p.locked.block != nil {
		s.met["locked"]++
	}
	if s.p.valid.round > s.p.locked.round {
		s.met["valid above the lock"]++
	}
	if s.p.valid.block != nil && s.p.locked.block != nil && s.p.valid.hash() != s.p.locked.hash() {
		s.met["valid another one"]++
	}
}

// P1801 to P1804: drawn calls, one behind the other, answer what the chapter's words say, and the looks agree behind each; saving and restoring in between.
func TestDrawn(t *testing.T) {
	r := rand.New(rand.NewPCG(18, 1))
	met := map[string]int{}
	for range 900 {
		s := newScript(t, r, met)
		if r.IntN(4) > 0 {
			s.m.Start()
			s.p.start()
		}
		for range 30 + r.IntN(100) {
			s.step(t)
		}
		alikeVotes(t, s, s.m, s.p)
		if s.p.done {
			met["done"]++
		}
	}
	for _, want := range []string{"told 1 0 false", "told 2 0 true", "told 2 0 false", "told 3 0 true", "told 3 0 false", "told 4 1 false", "told 4 2 false", "told 4 3 false", "told 5 0 true", "locked", "valid above the lock", "valid another one", "restored", "restored with a valid block", "done"} {
		if met[want] < 100 {
			t.Errorf("too few draws met %q: %v", want, met)
		}
	}
}

// P1803, P1802: what comes ahead of Start is kept, in whatever order, and Start asks the rules.
func TestDrawnAhead(t *testing.T) {
	r := rand.New(rand.NewPCG(18, 2))
	met := map[string]int{}
	for range 600 {
		s := newScript(t, r, met)
		for range r.IntN(150) {
			if r.IntN(6) == 0 {
				p := s.drawProposal()
				says(t, "Propose ahead of Start", s.m.Propose(p), seenAll(s.p.propose(p)))
			} else {
				v := s.drawVote()
				says(t, "Vote ahead of Start", s.m.Vote(v), seenAll(s.p.takeVote(v)))
			}
			says(t, "Timeout ahead of Start", s.m.Timeout(r.IntN(4), 0), "")
		}
		alike(t, "ahead of Start", s.m, s.p)
		alikeVotes(t, "ahead of Start", s.m, s.p)
		want := seenAll(s.p.start())
		says(t, "Start", s.m.Start(), want)
		alike(t, "behind Start", s.m, s.p)
		met[fmt.Sprint("done ", s.p.done)]++
		met[fmt.Sprint("skipped ", s.p.round > 0)]++
	}
	for _, want := range []string{"done true", "done false", "skipped true", "skipped false"} {
		if met[want] < 20 {
			t.Errorf("too few draws met %q: %v", want, met)
		}
	}
}

// P1801: saved texts in which something is another, byte by byte or item by item: they are restored or not as the words say, and what is restored is saved so again.
func TestDrawnSaved(t *testing.T) {
	r := rand.New(rand.NewPCG(18, 3))
	met := map[string]int{}
	for range 700 {
		s := newScript(t, r, met)
		s.m.Start()
		s.p.start()
		for range 30 + r.IntN(50) {
			s.step(t)
		}
		b := s.m.Save()
		for range 20 {
			x := changed(r, b)
			m, p := madeBy(t, s.n, s.p.me, s.mayFollow), newPlain(s.n, s.p.me, tall, s.mayFollow)
			want := api.ErrRlp
			if p.restore(x) {
				want = api.OK
			}
			is(t, fmt.Sprintf("Restore of %x", x), m.Restore(x), want)
			alike(t, "behind Restore", m, p)
			if want == api.OK && !slices.Equal(m.Save(), x) {
				t.Fatalf("saved again: %x, not %x", m.Save(), x)
			}
			met[fmt.Sprint("restored ", want)]++
			says(t, "Start", m.Start(), seenAll(p.start()))
			alike(t, "behind Start", m, p)
		}
	}
	if met["restored "+api.OK.Error()] < 500 || met["restored "+api.ErrRlp.Error()] < 500 {
		t.Errorf("too few draws: %v", met)
	}
}

// changed: bytes of which a few are others, or one is more or less; sometimes none.
func changed(r *rand.Rand, b []byte) []byte {
	b = slices.Clone(b)
	for range r.IntN(3) {
		i := r.IntN(min(len(b), []int{12, len(b)}[r.IntN(2)]))
		switch r.IntN(5) {
		case 0:
			b = slices.Delete(b, i, i+1)
		case 1:
			b = slices.Insert(b, i, byte(r.IntN(256)))
		case 2:
			b[i] = byte(r.IntN(5))
		default:
			b[i] += byte(1 + r.IntN(2)*254)
		}
	}
	return b
}
