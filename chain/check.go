package chain

import (
	"conclave/api"
	"conclave/ed"
)

// CheckVote: does a vote of a chain's validator hold?
func CheckVote(g api.Genesis, v api.Vote) api.Errno {
	if RightGenesis(g) != api.OK {
		return api.ErrArg
	}
	return checkVote(g, v)
}

// checkVote: of a genesis that is right.
func checkVote(g api.Genesis, v api.Vote) api.Errno {
	switch {
	case v.Kind != api.Prevote && v.Kind != api.Precommit,
		!placed(g, v.Height, v.Round, v.By):
		return api.ErrVote
	case !ed.Verify(g.Keys[v.By], VoteBytes(g.Chain, v), v.Sig):
		return api.ErrSig
	}
	return api.OK
}

// placed: there are such a height, such a round and such a validator.
func placed(g api.Genesis, height uint64, round, by int) bool {
	return height > 0 && fit(round) && by >= 0 && by < len(g.Keys)
}

// CheckProposal: does a proposal of a chain's validator hold?
func CheckProposal(g api.Genesis, p api.Proposal) api.Errno {
	if RightGenesis(g) != api.OK {
		return api.ErrArg
	}
	switch {
	case !placed(g, p.Height, p.Round, p.By),
		p.Valid < noRound || p.Valid >= p.Round,
		p.By != Proposer(p.Height, p.Round, len(g.Keys)),
		p.Block.Height != p.Height:
		return api.ErrVote
	case block(p.Block).wrong() != api.OK:
		return api.ErrBlock
	case !ed.Verify(g.Keys[p.By], ProposalBytes(g.Chain, p), p.Sig):
		return api.ErrSig
	}
	return api.OK
}

// CheckCommit: have enough of a chain's validators voted for a block?
func CheckCommit(g api.Genesis, c api.Commit) api.Errno {
	if RightGenesis(g) != api.OK {
		return api.ErrArg
	}
	if c.Block == (api.Hash{}) || len(c.Votes) < Quorum(len(g.Keys)) {
		return api.ErrCommit
	}
	for before, v := range each(c.Votes) {
		if v.By <= before || !belongs(c, v) || checkVote(g, api.Vote(v)) != api.OK {
			return api.ErrCommit
		}
	}
	return api.OK
}

// belongs: a vote is one of those that a commit is made of.
func belongs(c api.Commit, v vote) bool {
	return v.Kind == api.Precommit && v.Height == c.Height && v.Round == c.Round && v.Block == c.Block
}
