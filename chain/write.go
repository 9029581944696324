package chain

import (
	"iter"

	"conclave/api"
	"conclave/rlp"
)

const (
	mostNumber = 1<<31 - 1                                       // of those that are an int
	mostVotes  = api.MaxRlp / (len(api.Hash{}) + len(api.Sig{})) // more of them have no room in an encoding
	noRound    = -1                                              // Valid of a proposal that has none
)

// writable: what has an encoding.
type writable interface {
	wrong() api.Errno // why it has none; that there is too much of it may be left to rlp
	list() rlp.Item
}

type (
	block    api.Block
	vote     api.Vote
	proposal api.Proposal
	commit   api.Commit
)

// EncodeBlock: its bytes.
func EncodeBlock(b api.Block) ([]byte, api.Errno) { return written(block(b)) }

// EncodeVote: its bytes.
func EncodeVote(v api.Vote) ([]byte, api.Errno) { return written(vote(v)) }

// EncodeProposal: its bytes.
func EncodeProposal(p api.Proposal) ([]byte, api.Errno) { return written(proposal(p)) }

// EncodeCommit: its bytes.
func EncodeCommit(c api.Commit) ([]byte, api.Errno) { return written(commit(c)) }

// written: the encoding of what can be written.
func written[T writable](x T) ([]byte, api.Errno) {
	if err := x.wrong(); err != api.OK {
		return nil, err
	}
	return rlp.Encode(x.list())
}

// wrong: how long a block's encoding is belongs to its being right.
func (b block) wrong() api.Errno {
	if b.Height == 0 || !fit(b.Proposer, b.Round) || len(b.Txs) > api.MaxTxs {
		return api.ErrBlock
	}
	if enc, err := rlp.Encode(b.list()); err != api.OK || len(enc) > api.MaxBlock {
		return api.ErrBlock
	}
	return api.OK
}

func (b block) list() rlp.Item {
	return list(rlp.Num(b.Height), rlp.Str(b.Prev[:]), rlp.Str(b.State[:]), number(b.Proposer), number(b.Round), texts(b.Txs))
}

func (v vote) wrong() api.Errno {
	if !fit(v.Kind, v.Round, v.By) {
		return api.ErrVote
	}
	return api.OK
}

func (v vote) list() rlp.Item {
	return list(number(v.Kind), rlp.Num(v.Height), number(v.Round), rlp.Str(v.Block[:]), number(v.By), rlp.Str(v.Sig[:]))
}

func (p proposal) wrong() api.Errno {
	if !fit(p.Round, p.By) || p.Valid != noRound && !fit(p.Valid) {
		return api.ErrVote
	}
	return block(p.Block).wrong()
}

func (p proposal) list() rlp.Item {
	return list(rlp.Num(p.Height), number(p.Round), above(p.Valid), block(p.Block).list(), number(p.By), rlp.Str(p.Sig[:]))
}

func (c commit) wrong() api.Errno {
	if !fit(c.Round) {
		return api.ErrVote
	}
	for _, v := range each(c.Votes) {
		if err := v.wrong(); err != api.OK {
			return err
		}
	}
	if len(c.Votes) > mostVotes { // not even made a list
		return api.ErrBig
	}
	return api.OK
}

func (c commit) list() rlp.Item {
	var votes []rlp.Item
	for _, v := range each(c.Votes) {
		votes = append(votes, v.list())
	}
	return list(rlp.Num(c.Height), number(c.Round), rlp.Str(c.Block[:]), list(votes...))
}

// each: votes, each with who gave the one ahead of it: nobody, of the first.
func each(votes []api.Vote) iter.Seq2[int, vote] {
	return func(yield func(int, vote) bool) {
		before := -1
		for _, v := range votes {
			if !yield(before, vote(v)) {
				return
			}
			before = v.By
		}
	}
}

// fit: all of them are numbers that may be written.
func fit(numbers ...int) bool {
	for _, n := range numbers {
		if n < 0 || n > mostNumber {
			return false
		}
	}
	return true
}

// number: below 0 it counts as 0, since what is signed is asked of any vote.
func number(n int) rlp.Item { return rlp.Num(uint64(max(n, 0))) }

// above: the sum of a round and 1, which is 0 of none. The greatest int has one, too.
func above(round int) rlp.Item {
	if round <= noRound {
		return rlp.Num(0)
	}
	return rlp.Num(uint64(round) + 1)
}

// list: of items. They are just read: rlp.List would copy them all through, however much a block that is not right has.
func list(items ...rlp.Item) rlp.Item { return rlp.Item{List: true, Items: items} }

// texts: the list of them, which are not copied, too.
func texts(l [][]byte) rlp.Item {
	var items []rlp.Item
	for _, b := range l {
		items = append(items, rlp.Item{Bytes: b})
	}
	return list(items...)
}
