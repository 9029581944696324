package bft

import "conclave/api"

// rules: in the order in which they are tried; each tells something, and whether it fits.
func (m *Machine) rules() []func() ([]Out, bool) {
	return []func() ([]Out, bool){
		m.commits,
		m.skips,
		m.prevotes,
		m.locks,
		m.precommitsNone,
		m.waitsForPrevotes,
		m.waitsForPrecommits,
	}
}

// settled: what was told, and behind it what the rules tell till none fits any more.
func (m *Machine) settled(told ...Out) []Out {
	for m.started && !m.done {
		more, fits := m.firstThatFits()
		if !fits {
			break
		}
		told = append(told, more...)
	}
	return told
}

func (m *Machine) firstThatFits() ([]Out, bool) {
	for _, rule := range m.rules() {
		if told, fits := rule(); fits {
			return told, true
		}
	}
	return nil, false
}

// commits: rule 1. It may be a block of any round.
func (m *Machine) commits() ([]Out, bool) {
	if m.decided == noRound {
		return nil, false
	}
	m.done = true
	p := m.proposals[m.decided]
	return []Out{{Kind: Commit, Round: m.decided, Hash: p.hash, Block: copied(p.block)}}, true
}

// skips: rule 2. Among so many is one that keeps to the rules, and has gone on.
func (m *Machine) skips() ([]Out, bool) {
	if m.ahead <= m.round {
		return nil, false
	}
	return m.begin(m.ahead), true
}

// prevotes: rule 3.
func (m *Machine) prevotes() ([]Out, bool) {
	p := m.proposals[m.round]
	if m.step != waiting || p == nil || p.valid != noRound && !m.enough(api.Prevote, p.valid, p.hash) {
		return nil, false
	}
	if p.right && m.isFreeFor(p) {
		return []Out{m.prevote(p.hash)}, true
	}
	return []Out{m.prevote(api.Hash{})}, true
}

// isFreeFor: no lock is against a proposal.
func (m *Machine) isFreeFor(p *proposal) bool {
	return m.locked.round == noRound || m.locked.hash == p.hash || p.valid != noRound && m.locked.round <= p.valid
}

// locks: rule 4. Who has precommitted already just takes the block as valid, and tells nothing.
func (m *Machine) locks() ([]Out, bool) {
	p := m.proposals[m.round]
	if m.step < prevoted || p == nil || !p.right || m.past.lock || !m.enough(api.Prevote, m.round, p.hash) {
		return nil, false
	}
	m.past.lock = true
	m.valid = choice{round: m.round, block: p.block, hash: p.hash}
	if m.step != prevoted {
		return nil, true
	}
	m.locked = m.valid
	return []Out{m.precommit(p.hash)}, true
}

// precommitsNone: rule 5.
func (m *Machine) precommitsNone() ([]Out, bool) {
	if m.step != prevoted || !m.enough(api.Prevote, m.round, api.Hash{}) {
		return nil, false
	}
	return []Out{m.precommit(api.Hash{})}, true
}

// waitsForPrevotes: rule 6.
func (m *Machine) waitsForPrevotes() ([]Out, bool) {
	if m.step != prevoted || m.past.prevoteTimer || !m.enoughCameBy(api.Prevote, api.Precommit) {
		return nil, false
	}
	m.past.prevoteTimer = true
	return []Out{m.timer(prevoted)}, true
}

// waitsForPrecommits: rule 7.
func (m *Machine) waitsForPrecommits() ([]Out, bool) {
	if m.past.precommitTimer || !m.enoughCameBy(api.Precommit) {
		return nil, false
	}
	m.past.precommitTimer = true
	return []Out{m.timer(precommitted)}, true
}

// enoughCameBy: as many as are enough have voted so in this round, or have been heard in a higher one.
func (m *Machine) enoughCameBy(kinds ...int) bool {
	cameBy := func(by int) bool { return m.furthest[by] > m.round || m.heard(by, m.round, kinds...) }
	return m.count(cameBy) >= m.quorum()
}
