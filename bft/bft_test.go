package bft_test

import (
	"fmt"
	"math"
	"slices"
	"strings"
	"testing"

	"conclave/api"
	"conclave/bft"
	"conclave/chain"
)

// The height of most tests, and the greatest round.
const (
	tall    = 7
	highest = 1<<31 - 1
)

// made: a machine of that height for which all blocks are right.
func made(t *testing.T, n, me int) *bft.Machine { return madeBy(t, n, me, nil) }

// madeBy: the same, with a function that tells what is right.
func madeBy(t *testing.T, n, me int, right func(b api.Block) bool) *bft.Machine {
	t.Helper()
	m, err := bft.New(n, me, tall, right)
	if err != api.OK || m == nil {
		t.Fatalf("New(%d, %d): %v, %d", n, me, m, err)
	}
	return m
}

// at: a machine that is started and stands at the beginning of a round.
func at(t *testing.T, n, me, round int) *bft.Machine {
	t.Helper()
	m := made(t, n, me)
	m.Start()
	for r := range round {
		m.Timeout(3, r)
	}
	stands(t, "at", m, fmt.Sprint("round ", round, " step 1"))
	return m
}

// block: one of a few, by its tag, which is above 0.
func block(tag int) api.Block {
	return api.Block{Height: tall, Prev: api.Hash{byte(tag)}, State: api.Hash{1, byte(tag)}, Proposer: tag, Round: 2 * tag, Txs: [][]byte{{byte(tag)}, []byte("tx"), nil}}
}

// hashes: of the blocks of all tags; of 0 it is for no block.
var hashes = func() (l [10]api.Hash) {
	for i := range l {
		if i > 0 {
			l[i] = chain.Hash(block(i))
		}
	}
	return l
}()

func hash(tag int) api.Hash { return hashes[tag] }

// proposal: by who proposes in that round.
func proposal(n, round, valid, tag int) api.Proposal {
	return api.Proposal{Height: tall, Round: round, Valid: valid, Block: block(tag), By: (tall + round) % n, Sig: api.Sig{byte(round)}}
}

func prevote(round, by, tag int) api.Vote {
	return api.Vote{Kind: api.Prevote, Height: tall, Round: round, Block: hash(tag), By: by, Sig: api.Sig{1, byte(by)}}
}

func precommit(round, by, tag int) api.Vote {
	v := prevote(round, by, tag)
	v.Kind, v.Sig[0] = api.Precommit, 2
	return v
}

// votes: of those validators, one behind the other; all that is told.
func votes(m *bft.Machine, of func(round, by, tag int) api.Vote, round, tag int, by ...int) []bft.Out {
	var told []bft.Out
	for _, b := range by {
		told = append(told, m.Vote(of(round, b, tag))...)
	}
	return told
}

// below: the numbers from 0 to below n.
func below(n int) []int {
	var l []int
	for i := range n {
		l = append(l, i)
	}
	return l
}

// tag: of a hash, as a text.
func tag(h api.Hash) string {
	if i := slices.Index(hashes[:], h); i >= 0 {
		return fmt.Sprint("b", i)
	}
	return fmt.Sprintf("%x", h[:4])
}

// seenBlock: as a text; those of a tag are short.
func seenBlock(b api.Block) string {
	if i := slices.Index(hashes[1:], chain.Hash(b)) + 1; i > 0 {
		return fmt.Sprint("b", i)
	}
	return fmt.Sprint(b)
}

// seen: what is told, with all that is not zero.
func seen(o bft.Out) string {
	text := fmt.Sprint("kind ", o.Kind)
	if o.Kind >= 1 && o.Kind <= 5 {
		text = []string{"propose", "prevote", "precommit", "timer", "commit"}[o.Kind-1]
	}
	text += fmt.Sprint(" ", o.Round)
	if o.Which != 0 {
		text += fmt.Sprint(" which ", o.Which)
	}
	if o.Valid != 0 || o.Kind == bft.Propose {
		text += fmt.Sprint(" valid ", o.Valid)
	}
	if o.Hash != (api.Hash{}) {
		text += " for " + tag(o.Hash)
	}
	if o.Has {
		text += " has"
	}
	if s := seenBlock(o.Block); s != fmt.Sprint(api.Block{}) {
		text += " block " + s
	}
	return text
}

func seenAll(told []bft.Out) string {
	var l []string
	for _, o := range told {
		l = append(l, seen(o))
	}
	return strings.Join(l, "; ")
}

// says: what is told is as it should be.
func says(t *testing.T, what string, told []bft.Out, want string) {
	t.Helper()
	if got := seenAll(told); got != want {
		t.Errorf("%s: told %q, not %q", what, got, want)
	}
}

// seenState: with all that is not as in a machine that is started and has no blocks.
func seenState(s bft.State) string {
	text := fmt.Sprint("round ", s.Round, " step ", s.Step)
	if s.Locked != -1 || s.LockedHash != (api.Hash{}) {
		text += fmt.Sprint(" locked ", s.Locked, " on ", tag(s.LockedHash))
	}
	if s.Valid != -1 || s.ValidHash != (api.Hash{}) {
		text += fmt.Sprint(" valid ", s.Valid, " is ", tag(s.ValidHash))
	}
	if !s.Started {
		text += " not started"
	}
	if s.Done {
		text += " done"
	}
	return text
}

// stands: the state is as it should be.
func stands(t *testing.T, what string, m *bft.Machine, want string) {
	t.Helper()
	if got := seenState(m.State()); got != want {
		t.Errorf("%s: %q, not %q", what, got, want)
	}
}

// is: an error as it should be.
func is(t *testing.T, what string, got, want api.Errno) {
	t.Helper()
	if got != want {
		t.Errorf("%s: %d, not %d", what, got, want)
	}
}

// has: the votes that are kept, told by who gave them.
func has(t *testing.T, what string, m *bft.Machine, kind, round, tag int, by ...int) {
	t.Helper()
	var got []int
	for _, v := range m.Votes(kind, round, hash(tag)) {
		if v != prevote(round, v.By, tag) && v != precommit(round, v.By, tag) || v.Kind != kind {
			t.Errorf("%s: kept: %v", what, v)
		}
		got = append(got, v.By)
	}
	if !slices.Equal(got, by) {
		t.Errorf("%s: votes of %v, not of %v", what, got, by)
	}
}

// The chapter's example, whole.
func TestExample(t *testing.T) {
	m := made(t, 1, 0)
	says(t, "Start", m.Start(), "propose 0 valid -1; timer 0 which 1")
	says(t, "Propose", m.Propose(proposal(1, 0, -1, 3)), "prevote 0 for b3")
	says(t, "its prevote", m.Vote(prevote(0, 0, 3)), "precommit 0 for b3")
	stands(t, "its prevote", m, "round 0 step 3 locked 0 on b3 valid 0 is b3")
	says(t, "its precommit", m.Vote(precommit(0, 0, 3)), "commit 0 for b3 block b3")
	stands(t, "its precommit", m, "round 0 step 3 locked 0 on b3 valid 0 is b3 done")
}

// P1801: the edges of a machine's numbers; a new one is in round 0, step 0, without blocks.
func TestNew(t *testing.T) {
	for n := -2; n <= api.MaxNodes+2; n++ {
		for me := -2; me <= api.MaxNodes+2; me++ {
			for _, height := range []uint64{0, 1, tall, math.MaxUint64} {
				m, err := bft.New(n, me, height, nil)
				if n < 1 || n > 16 || me < 0 || me >= n || height == 0 {
					if m != nil || err != api.ErrArg {
						t.Errorf("New(%d, %d, %d): %v, %d", n, me, height, m, err)
					}
				} else if m == nil || err != api.OK {
					t.Errorf("New(%d, %d, %d): %v, %d", n, me, height, m, err)
				} else {
					stands(t, "New", m, "round 0 step 0 not started")
				}
			}
		}
	}
	for _, x := range []int{math.MinInt, math.MaxInt, 1 << 32, 1<<32 + 4} {
		for _, pair := range [][2]int{{x, 0}, {4, x}, {x, x}, {x, x - 1}} {
			if m, err := bft.New(pair[0], pair[1], tall, nil); m != nil || err != api.ErrArg {
				t.Errorf("New(%v): %v, %d", pair, m, err)
			}
		}
	}
}

// P1804: State of a new machine by its fields, and of one that has all of them.
func TestState(t *testing.T) {
	m := made(t, 1, 0)
	if got, want := m.State(), (bft.State{Locked: -1, Valid: -1}); got != want {
		t.Errorf("new: %v", got)
	}
	m.Start()
	if got, want := m.State(), (bft.State{Step: 1, Locked: -1, Valid: -1, Started: true}); got != want {
		t.Errorf("started: %v", got)
	}
	m.Timeout(3, 0)
	m.Propose(proposal(1, 1, -1, 2))
	if got, want := m.State(), (bft.State{Round: 1, Step: 2, Locked: -1, Valid: -1, Started: true}); got != want {
		t.Errorf("prevoted: %v", got)
	}
	m.Vote(prevote(1, 0, 2))
	want := bft.State{Round: 1, Step: 3, Locked: 1, Valid: 1, LockedHash: hash(2), ValidHash: hash(2), Started: true}
	if got := m.State(); got != want {
		t.Errorf("precommitted: %v", got)
	}
	want.Done = true
	m.Vote(precommit(1, 0, 2))
	if got := m.State(); got != want {
		t.Errorf("done: %v", got)
	}
}

// P1801 to P1804: all calls of nil.
func TestNil(t *testing.T) {
	var m *bft.Machine
	good := made(t, 4, 0).Save()
	for _, b := range [][]byte{nil, good, []byte("junk"), make([]byte, api.MaxRlp+1)} {
		is(t, "Restore", m.Restore(b), api.ErrNil)
	}
	if len(m.Save()) != 0 {
		t.Errorf("Save: %x", m.Save())
	}
	says(t, "Start", m.Start(), "")
	for _, x := range []int{0, 1, 2, 3, -1, math.MinInt, math.MaxInt} {
		says(t, "Propose", m.Propose(proposal(4, 0, x, 1)), "")
		says(t, "Vote", m.Vote(api.Vote{Kind: 1, Height: tall, By: x}), "")
		says(t, "Timeout", m.Timeout(1, x), "")
		says(t, "Timeout", m.Timeout(x, 0), "")
		if l := m.Votes(x, x, api.Hash{}); len(l) != 0 {
			t.Errorf("Votes: %v", l)
		}
	}
	if s := m.State(); s != (bft.State{}) {
		t.Errorf("State: %v", s)
	}
}

// Rule 5: two machines share nothing.
func TestApart(t *testing.T) {
	a, b := made(t, 4, 0), made(t, 4, 0)
	a.Start()
	a.Propose(proposal(4, 0, -1, 1))
	votes(a, prevote, 0, 1, 0, 1, 2)
	votes(a, precommit, 0, 1, 1, 3)
	a.Vote(prevote(8, 3, 0))
	stands(t, "the other", b, "round 0 step 0 not started")
	for kind := 1; kind <= 2; kind++ {
		has(t, "the other", b, kind, 0, 1)
	}
	says(t, "the other's Start", b.Start(), "timer 0 which 1")
	says(t, "the other's Vote", b.Vote(prevote(8, 2, 0)), "")
	says(t, "the other's Propose", b.Propose(proposal(4, 0, -1, 2)), "prevote 0 for b2")
	stands(t, "the first", a, "round 0 step 3 locked 0 on b1 valid 0 is b1")
	has(t, "the first", a, 2, 0, 1, 1, 3)
	says(t, "the first's Vote", a.Vote(prevote(8, 2, 0)), "timer 8 which 1")
}
