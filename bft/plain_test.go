package bft_test

import (
	"fmt"
	"math/big"
	"slices"
	"testing"

	"conclave/api"
	"conclave/bft"
	"conclave/chain"
	"conclave/rlp"
)

// plainChoice: a block with its round; without one the round is -1.
type plainChoice struct {
	round int
	block *api.Block
}

func (c plainChoice) hash() api.Hash {
	if c.block == nil {
		return api.Hash{}
	}
	return chain.Hash(*c.block)
}

// plainKept: a proposal and what was said of its block.
type plainKept struct {
	api.Proposal
	right bool
}

// plain: the chapter's words said over again: all that is kept stands in lists, and each rule goes through all of them.
type plain struct {
	n, me         int
	height        uint64
	right         func(b api.Block) bool
	round, step   int
	locked, valid plainChoice
	proposals     []plainKept
	votes         []api.Vote
	once          map[string]bool // what came in a round, by rule and round
	started, done bool
	told          []bft.Out
}

func newPlain(n, me int, height uint64, right func(b api.Block) bool) *plain {
	return &plain{n: n, me: me, height: height, right: right, locked: plainChoice{round: -1}, valid: plainChoice{round: -1}, once: map[string]bool{}}
}

// enough: more than two thirds; some: more than a third.
func (p *plain) enough(many int) bool { return 3*many > 2*p.n }
func (p *plain) some(many int) bool   { return 3*many > p.n }

func (p *plain) proposer(round int) int {
	sum := new(big.Int).Add(new(big.Int).SetUint64(p.height), big.NewInt(int64(round)))
	return int(sum.Mod(sum, big.NewInt(int64(p.n))).Int64())
}

// rounds: all of which something is kept, rising.
func (p *plain) rounds() []int {
	var l []int
	for _, x := range p.proposals {
		l = append(l, x.Round)
	}
	for _, v := range p.votes {
		l = append(l, v.Round)
	}
	slices.Sort(l)
	return slices.Compact(l)
}

func (p *plain) proposal(round int) *plainKept {
	for i, x := range p.proposals {
		if x.Round == round {
			return &p.proposals[i]
		}
	}
	return nil
}

// of: the votes for a hash, by rising By.
func (p *plain) of(kind, round int, h api.Hash) []api.Vote {
	var l []api.Vote
	for _, v := range p.votes {
		if v.Kind == kind && v.Round == round && v.Block == h {
			l = append(l, v)
		}
	}
	slices.SortFunc(l, func(a, b api.Vote) int { return a.By - b.By })
	return l
}

// who: how many validators gave something that fits; a proposal counts as of kind 0.
func (p *plain) who(fits func(kind, round int) bool) int {
	by := map[int]bool{}
	for _, x := range p.proposals {
		if fits(0, x.Round) {
			by[x.By] = true
		}
	}
	for _, v := range p.votes {
		if fits(v.Kind, v.Round) {
			by[v.By] = true
		}
	}
	return len(by)
}

func (p *plain) tell(o bft.Out) { p.told = append(p.told, o) }

func (p *plain) begins(round int) {
	p.round, p.step = round, 1
	if p.proposer(round) == p.me {
		o := bft.Out{Kind: bft.Propose, Round: round, Valid: p.valid.round}
		if p.valid.block != nil {
			o.Has, o.Block = true, *p.valid.block
		}
		p.tell(o)
	}
	p.tell(bft.Out{Kind: bft.Timer, Round: round, Which: 1})
}

func (p *plain) vote(kind int, h api.Hash) {
	p.tell(bft.Out{Kind: kind, Round: p.round, Hash: h})
	p.step = kind
}

// first: is it the first time that a rule fits in this round?
func (p *plain) first(rule int) bool {
	key := fmt.Sprint(rule, " ", p.round)
	if p.once[key] {
		return false
	}
	p.once[key] = true
	return true
}

func (p *plain) rule(number int) bool {
	x := p.proposal(p.round)
	switch number {
	case 1:
		for _, r := range p.rounds() {
			if x := p.proposal(r); x != nil && x.right && p.enough(len(p.of(2, r, chain.Hash(x.Block)))) {
				p.tell(bft.Out{Kind: bft.Commit, Round: r, Hash: chain.Hash(x.Block), Block: x.Block})
				p.done = true
				return true
			}
		}
	case 2:
		for _, r := range slices.Backward(p.rounds()) {
			if r > p.round && p.some(p.who(func(_, round int) bool { return round == r })) {
				p.begins(r)
				return true
			}
		}
	case 3:
		if p.step == 1 && x != nil && (x.Valid == -1 || p.enough(len(p.of(1, x.Valid, chain.Hash(x.Block))))) {
			h := chain.Hash(x.Block)
			if !x.right || p.locked.block != nil && p.locked.hash() != h && !(x.Valid >= 0 && p.locked.round <= x.Valid) {
				h = api.Hash{}
			}
			p.vote(bft.Prevote, h)
			return true
		}
	case 4:
		if p.step >= 2 && x != nil && x.right && p.enough(len(p.of(1, p.round, chain.Hash(x.Block)))) && p.first(4) {
			p.valid = plainChoice{p.round, &x.Block}
			if p.step == 2 {
				p.locked = p.valid
				p.vote(bft.Precommit, chain.Hash(x.Block))
			}
			return true
		}
	case 5:
		if p.step == 2 && p.enough(len(p.of(1, p.round, api.Hash{}))) {
			p.vote(bft.Precommit, api.Hash{})
			return true
		}
	case 6, 7:
		came := p.who(func(kind, round int) bool {
			return round > p.round || round == p.round && (kind == 2 || kind == 1 && number == 6)
		})
		if (number == 7 || p.step == 2) && p.enough(came) && p.first(number) {
			p.tell(bft.Out{Kind: bft.Timer, Round: p.round, Which: number - 4})
			return true
		}
	}
	return false
}

// rules: again from the first one on; what was told since the last time.
func (p *plain) rules() []bft.Out {
	for number := 1; number <= 7 && p.started && !p.done; number++ {
		if p.rule(number) {
			number = 0
		}
	}
	told := p.told
	p.told = nil
	return told
}

func (p *plain) start() []bft.Out {
	if p.started {
		return nil
	}
	p.started = true
	if p.step == 0 {
		p.begins(p.round)
	} else {
		p.tell(bft.Out{Kind: bft.Timer, Round: p.round, Which: p.step})
	}
	return p.rules()
}

func (p *plain) propose(x api.Proposal) []bft.Out {
	_, err := chain.EncodeBlock(x.Block)
	if x.Height == p.height && x.Round >= 0 && x.Round <= highest && x.Valid >= -1 && x.Valid < x.Round &&
		x.By == p.proposer(x.Round) && x.Block.Height == p.height && err == api.OK && p.proposal(x.Round) == nil {
		p.proposals = append(p.proposals, plainKept{x, p.right == nil || p.right(x.Block)})
	}
	return p.rules()
}

func (p *plain) takeVote(v api.Vote) []bft.Out {
	if (v.Kind == 1 || v.Kind == 2) && v.Height == p.height && v.Round >= 0 && v.Round <= highest && v.By >= 0 && v.By < p.n {
		there := slices.ContainsFunc(p.votes, func(w api.Vote) bool {
			return w.Kind == v.Kind && w.Round == v.Round && w.By == v.By && w.Block == v.Block
		})
		if !there {
			p.votes = append(p.votes, v)
		}
	}
	return p.rules()
}

func (p *plain) timeout(which, round int) []bft.Out {
	if round != p.round || !p.started || p.done {
		return nil
	}
	switch {
	case which == 1 && p.step == 1:
		p.vote(bft.Prevote, api.Hash{})
	case which == 2 && p.step == 2:
		p.vote(bft.Precommit, api.Hash{})
	case which == 3 && p.round < highest:
		p.begins(p.round + 1)
	}
	return p.rules()
}

func (p *plain) state() bft.State {
	return bft.State{
		Round: p.round, Step: p.step, Locked: p.locked.round, Valid: p.valid.round,
		LockedHash: p.locked.hash(), ValidHash: p.valid.hash(), Started: p.started, Done: p.done,
	}
}

// Encodings, put together byte by byte.

func plainHead(low, high byte, n int) []byte {
	if n <= 55 {
		return []byte{low + byte(n)}
	}
	b := big.NewInt(int64(n)).Bytes()
	return append([]byte{high + byte(len(b))}, b...)
}

func plainStr(b []byte) []byte {
	if len(b) == 1 && b[0] < 0x80 {
		return slices.Clone(b)
	}
	return slices.Concat(plainHead(0x80, 0xb7, len(b)), b)
}

func plainNum(n int) []byte { return plainStr(big.NewInt(int64(n)).Bytes()) }

func plainList(parts ...[]byte) []byte {
	body := slices.Concat(parts...)
	return slices.Concat(plainHead(0xc0, 0xf7, len(body)), body)
}

func (c plainChoice) bytes() []byte {
	if c.block == nil {
		return nil
	}
	b, _ := chain.EncodeBlock(*c.block)
	return b
}

func (p *plain) save() []byte {
	var prevotes [][]byte
	if p.valid.block != nil {
		for _, v := range p.of(1, p.valid.round, p.valid.hash()) {
			b, _ := chain.EncodeVote(v)
			prevotes = append(prevotes, plainStr(b))
		}
	}
	return plainList(plainNum(p.round), plainNum(p.step), plainNum(p.locked.round+1), plainStr(p.locked.bytes()), plainNum(p.valid.round+1), plainStr(p.valid.bytes()), plainList(prevotes...))
}

// plainNumber: of an item, if it is one of at most that.
func plainNumber(x rlp.Item, most int64) (int, bool) {
	n := new(big.Int).SetBytes(x.Bytes)
	return int(n.Int64()), !x.List && (len(x.Bytes) == 0 || x.Bytes[0] != 0) && n.Cmp(big.NewInt(most)) <= 0
}

func (p *plain) readChoice(at, b rlp.Item, round int) (plainChoice, bool) {
	n, ok := plainNumber(at, 1<<31)
	c := plainChoice{round: n - 1}
	if !ok || b.List || c.round > round {
		return c, false
	}
	if n == 0 {
		return c, len(b.Bytes) == 0
	}
	x, err := chain.DecodeBlock(b.Bytes)
	c.block = &x
	return c, err == api.OK && x.Height == p.height
}

// restore: false, if the bytes are not saved so.
func (p *plain) restore(b []byte) bool {
	x, err := rlp.Decode(b)
	if err != api.OK || !x.List || len(x.Items) != 7 || !x.Items[6].List {
		return false
	}
	round, ok1 := plainNumber(x.Items[0], highest)
	step, ok2 := plainNumber(x.Items[1], 3)
	locked, ok3 := p.readChoice(x.Items[2], x.Items[3], round)
	valid, ok4 := p.readChoice(x.Items[4], x.Items[5], round)
	if !ok1 || !ok2 || !ok3 || !ok4 {
		return false
	}
	var l []api.Vote
	for _, y := range x.Items[6].Items {
		v, err := chain.DecodeVote(y.Bytes)
		if y.List || err != api.OK || v.Kind != 1 || v.Height != p.height || v.Round != valid.round || valid.block == nil || v.Block != valid.hash() || v.By >= p.n || len(l) > 0 && v.By <= l[len(l)-1].By {
			return false
		}
		l = append(l, v)
	}
	if valid.block != nil && !p.enough(len(l)) {
		return false
	}
	p.round, p.step, p.locked, p.valid = round, step, locked, valid
	for _, v := range l {
		p.takeVote(v)
	}
	return true
}

// alike: a machine is as the chapter's words say.
func alike(t *testing.T, what any, m *bft.Machine, p *plain) {
	t.Helper()
	if m.State() != p.state() {
		t.Fatalf("%v: %q, not %q", what, seenState(m.State()), seenState(p.state()))
	}
	if got, want := m.Save(), p.save(); !slices.Equal(got, want) {
		t.Fatalf("%v: saved %x, not %x", what, got, want)
	}
}

// alikeVotes: it has the votes that it should have, of all rounds and hashes of which there are some, and no others.
func alikeVotes(t *testing.T, what any, m *bft.Machine, p *plain) {
	t.Helper()
	for _, round := range append(p.rounds(), -1, p.round, p.round+1) {
		for kind := -1; kind <= 3; kind++ {
			for tag := range 5 {
				if got, want := fmt.Sprint(m.Votes(kind, round, hash(tag))), fmt.Sprint(p.of(kind, round, hash(tag))); got != want {
					t.Fatalf("%v: votes %d of round %d for b%d: %s, not %s", what, kind, round, tag, got, want)
				}
			}
		}
	}
}
