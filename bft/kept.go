package bft

import (
	"iter"

	"conclave/api"
	"conclave/chain"
)

const proposed = 0 // beside the kinds of votes

// kept: the proposals and votes of a machine. What of them the first two rules look for in all rounds is noted as they come, since it never goes again: so a call does not go through all rounds that there are.
type kept struct {
	proposals map[int]*proposal // by rounds
	votes     map[ballot]api.Vote
	voices    map[voice]struct{}
	furthest  [api.MaxNodes]int // of each validator the highest round of which something is kept
	decided   int               // the lowest round whose block may be committed
	ahead     int               // the highest round in which some were heard
}

// proposal: the first one of a round.
type proposal struct {
	block api.Block
	hash  api.Hash
	valid int
	right bool
}

// voice: a validator proposed in a round, or voted in it.
type voice struct{ round, kind, by int }

// ballot: a vote for a hash; of one voice there may be several.
type ballot struct {
	voice
	hash api.Hash
}

func nothingKept() kept {
	k := kept{
		proposals: map[int]*proposal{},
		votes:     map[ballot]api.Vote{},
		voices:    map[voice]struct{}{},
		decided:   noRound,
		ahead:     noRound,
	}
	for by := range k.furthest {
		k.furthest[by] = noRound
	}
	return k
}

// each: the votes of a kind, a round and a hash, by rising By.
func (k *kept) each(kind, round int, h api.Hash) iter.Seq[api.Vote] {
	return func(yield func(api.Vote) bool) {
		for by := range api.MaxNodes {
			v, there := k.votes[ballot{voice{round, kind, by}, h}]
			if there && !yield(v) {
				return
			}
		}
	}
}

// heard: something of one of these kinds is kept of a validator in a round.
func (k *kept) heard(by, round int, kinds ...int) bool {
	for _, kind := range kinds {
		if _, there := k.voices[voice{round, kind, by}]; there {
			return true
		}
	}
	return false
}

// enough: the votes of a kind, a round and a hash are.
func (m *Machine) enough(kind, round int, h api.Hash) bool {
	many := 0
	for range m.each(kind, round, h) {
		many++
	}
	return many >= m.quorum()
}

// count: of how many validators something holds.
func (m *Machine) count(holds func(by int) bool) int {
	many := 0
	for by := range m.n {
		if holds(by) {
			many++
		}
	}
	return many
}

// takesProposal: it is to be kept.
func (m *Machine) takesProposal(p api.Proposal) bool {
	if p.Height != m.height || !isRound(p.Round) || p.Valid < noRound || p.Valid >= p.Round ||
		p.By != m.proposer(p.Round) || p.Block.Height != m.height || m.proposals[p.Round] != nil {
		return false
	}
	_, err := chain.EncodeBlock(p.Block)
	return err == api.OK
}

// keepProposal: it is one of those that a machine takes. It stands in its place ahead of asking whether its block is right, lest one who calls the machine from there is asked for ever.
func (m *Machine) keepProposal(p api.Proposal) {
	first := &proposal{block: copied(p.Block), hash: chain.Hash(p.Block), valid: p.Valid}
	m.proposals[p.Round] = first
	first.right = m.mayFollow(copied(p.Block))
	m.note(voice{p.Round, proposed, p.By})
}

// mayFollow: what right says; if it panics, no.
func (m *Machine) mayFollow(b api.Block) bool {
	if m.right == nil {
		return true
	}
	defer func() { _ = recover() }()
	return m.right(b)
}

// takesVote: it is to be kept.
func (m *Machine) takesVote(v api.Vote) bool {
	if v.Kind != api.Prevote && v.Kind != api.Precommit || v.Height != m.height || !isRound(v.Round) || v.By < 0 || v.By >= m.n {
		return false
	}
	_, there := m.votes[ballotOf(v)]
	return !there
}

// keepVote: if it is to be kept.
func (m *Machine) keepVote(v api.Vote) {
	if !m.takesVote(v) {
		return
	}
	m.votes[ballotOf(v)] = v
	m.note(ballotOf(v).voice)
}

func ballotOf(v api.Vote) ballot { return ballot{voice{v.Round, v.Kind, v.By}, v.Block} }

func isRound(round int) bool { return round >= 0 && round <= mostRound }

// note: something of a validator has come to be kept; only its round can be another one for the first two rules by that.
func (m *Machine) note(v voice) {
	m.voices[v] = struct{}{}
	m.furthest[v.by] = max(m.furthest[v.by], v.round)
	inRound := func(by int) bool { return m.heard(by, v.round, proposed, api.Prevote, api.Precommit) }
	if m.count(inRound) >= chain.Some(m.n) {
		m.ahead = max(m.ahead, v.round)
	}
	p := m.proposals[v.round]
	if p == nil || !p.right || !m.enough(api.Precommit, v.round, p.hash) {
		return
	}
	if m.decided == noRound || v.round < m.decided {
		m.decided = v.round
	}
}
