package bft

import "conclave/api"

// Start: the machine begins, or goes on from where it was saved.
func (m *Machine) Start() []Out {
	if m == nil || m.started {
		return nil
	}
	m.started = true
	if m.step == unbegun {
		return m.settled(m.begin(m.round)...)
	}
	return m.settled(m.timer(m.step))
}

// Propose: a proposal has come.
func (m *Machine) Propose(p api.Proposal) []Out {
	if m == nil {
		return nil
	}
	if m.takesProposal(p) {
		m.keepProposal(p)
	}
	return m.settled()
}

// Vote: a vote has come.
func (m *Machine) Vote(v api.Vote) []Out {
	if m == nil {
		return nil
	}
	m.keepVote(v)
	return m.settled()
}

// Timeout: a timer of a round has come.
func (m *Machine) Timeout(which, round int) []Out {
	if m == nil || !m.started || m.done || round != m.round {
		return nil
	}
	switch {
	case which == waiting && m.step == waiting:
		return m.settled(m.prevote(api.Hash{}))
	case which == prevoted && m.step == prevoted:
		return m.settled(m.precommit(api.Hash{}))
	case which == precommitted && m.round < mostRound:
		return m.settled(m.begin(m.round + 1)...)
	}
	return m.settled()
}

// begin: a round does; what is told.
func (m *Machine) begin(round int) []Out {
	m.round, m.step, m.past = round, waiting, onces{}
	if m.proposer(round) != m.me {
		return []Out{m.timer(waiting)}
	}
	o := m.out(Propose)
	o.Valid = m.valid.round
	if m.valid.round != noRound {
		o.Has, o.Block = true, copied(m.valid.block)
	}
	return []Out{o, m.timer(waiting)}
}

// out: what is told of the machine's round.
func (m *Machine) out(kind int) Out { return Out{Kind: kind, Round: m.round} }

func (m *Machine) timer(which int) Out {
	o := m.out(Timer)
	o.Which = which
	return o
}

// prevote: for a hash; zero: for no block.
func (m *Machine) prevote(h api.Hash) Out {
	m.step = prevoted
	o := m.out(Prevote)
	o.Hash = h
	return o
}

// precommit: for a hash; zero: for no block.
func (m *Machine) precommit(h api.Hash) Out {
	m.step = precommitted
	o := m.out(Precommit)
	o.Hash = h
	return o
}
