package bft

import (
	"conclave/api"
	"conclave/chain"
	"conclave/rlp"
)

const savedItems = 7

// saved: what Save writes of a machine.
type saved struct {
	round, step   int
	locked, valid choice
	votes         []api.Vote // the prevotes by which the valid block is so
}

// Save: the bytes by which another machine of the height can go on.
func (m *Machine) Save() []byte {
	if m == nil {
		return nil
	}
	var votes []rlp.Item
	for v := range m.each(api.Prevote, m.valid.round, m.valid.hash) {
		b, _ := chain.EncodeVote(v) // what is kept can be written
		votes = append(votes, rlp.Str(b))
	}
	b, _ := rlp.Encode(rlp.List( // two blocks and MaxNodes votes are below rlp's bound
		number(m.round), number(m.step),
		number(m.locked.round+1), m.locked.bytes(),
		number(m.valid.round+1), m.valid.bytes(),
		rlp.List(votes...),
	))
	return b
}

func number(n int) rlp.Item { return rlp.Num(uint64(n)) }

// bytes: of the block's encoding. There is none of a block that is none.
func (c choice) bytes() rlp.Item {
	b, _ := chain.EncodeBlock(c.block)
	return rlp.Str(b)
}

// Restore: the machine is as the one that was saved; what it has kept already stays.
func (m *Machine) Restore(b []byte) api.Errno {
	switch {
	case m == nil:
		return api.ErrNil
	case m.started:
		return api.ErrArg
	}
	s, ok := m.read(b)
	if !ok {
		return api.ErrRlp
	}
	m.round, m.step, m.locked, m.valid = s.round, s.step, s.locked, s.valid
	for _, v := range s.votes {
		m.keepVote(v)
	}
	return api.OK
}

// read: what was saved; false, if a machine of this height does not save so.
func (m *Machine) read(b []byte) (saved, bool) {
	x, err := rlp.Decode(b)
	if err != api.OK || len(x.Items) != savedItems {
		return saved{}, false
	}
	var s saved
	var rightRound, rightStep, rightLock, rightValid, rightVotes bool
	s.round, rightRound = small(x.Items[0], mostRound)
	s.step, rightStep = small(x.Items[1], precommitted)
	s.locked, rightLock = m.readChoice(x.Items[2], x.Items[3], s.round)
	s.valid, rightValid = m.readChoice(x.Items[4], x.Items[5], s.round)
	s.votes, rightVotes = m.readVotes(x.Items[6], s.valid)
	if !rightRound || !rightStep || !rightLock || !rightValid || !rightVotes {
		return saved{}, false
	}
	return s, true
}

// small: the number of an item, if it is no greater than that.
func small(x rlp.Item, most uint64) (int, bool) {
	n, err := rlp.Uint(x)
	if err != api.OK || n > most {
		return 0, false
	}
	return int(n), true
}

// readChoice: a block with its round, which is none above the machine's.
func (m *Machine) readChoice(above, block rlp.Item, round int) (choice, bool) {
	n, ok := small(above, uint64(round)+1)
	if !ok || block.List {
		return choice{}, false
	}
	if n == 0 {
		return choice{round: noRound}, len(block.Bytes) == 0
	}
	b, err := chain.DecodeBlock(block.Bytes)
	if err != api.OK || b.Height != m.height {
		return choice{}, false
	}
	return choice{round: n - 1, block: b, hash: chain.Hash(b)}, true
}

// readVotes: the prevotes by which a block is valid; without one there are none.
func (m *Machine) readVotes(x rlp.Item, valid choice) ([]api.Vote, bool) {
	if !x.List {
		return nil, false
	}
	if valid.round == noRound {
		return nil, len(x.Items) == 0
	}
	var votes []api.Vote
	before := -1
	for _, y := range x.Items {
		v, err := chain.DecodeVote(y.Bytes) // a list has no bytes, and nothing is no vote
		if err != api.OK || v.Kind != api.Prevote || v.Height != m.height || v.Round != valid.round || v.Block != valid.hash || v.By <= before || v.By >= m.n {
			return nil, false
		}
		votes = append(votes, v)
		before = v.By
	}
	return votes, len(votes) >= m.quorum()
}
