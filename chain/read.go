package chain

import (
	"conclave/api"
	"conclave/rlp"
)

// DecodeBlock: the block that the bytes are.
func DecodeBlock(b []byte) (api.Block, api.Errno) {
	x, err := decoded(b, readBlock)
	return api.Block(x), err
}

// DecodeVote: the vote that the bytes are.
func DecodeVote(b []byte) (api.Vote, api.Errno) {
	x, err := decoded(b, readVote)
	return api.Vote(x), err
}

// DecodeProposal: the proposal that the bytes are.
func DecodeProposal(b []byte) (api.Proposal, api.Errno) {
	x, err := decoded(b, readProposal)
	return api.Proposal(x), err
}

// DecodeCommit: the commit that the bytes are.
func DecodeCommit(b []byte) (api.Commit, api.Errno) {
	x, err := decoded(b, readCommit)
	return api.Commit(x), err
}

// decoded: what the bytes are, if it can be read and written.
func decoded[T writable](b []byte, read func(x rlp.Item) (T, bool)) (T, api.Errno) {
	var none T
	item, err := rlp.Decode(b)
	if err != api.OK {
		return none, err
	}
	x, ok := read(item)
	if !ok {
		return none, api.ErrRlp
	}
	if err := x.wrong(); err != api.OK {
		return none, err
	}
	return x, api.OK
}

// readBlock: the block of a list; false, if it is none. Whether it is right is not asked.
func readBlock(x rlp.Item) (block, bool) {
	r := listed(x, 6)
	var b block
	b.Height = r.number()
	r.fill(b.Prev[:])
	r.fill(b.State[:])
	b.Proposer = r.capped()
	b.Round = r.capped()
	for _, y := range r.list() {
		b.Txs = append(b.Txs, y.Bytes) // what rlp hands out is nobody else's
		r.wrong = r.wrong || y.List
	}
	return b, !r.wrong
}

// readVote: the vote of a list; false, if it is none.
func readVote(x rlp.Item) (vote, bool) {
	r := listed(x, 6)
	var v vote
	v.Kind = r.small(mostNumber)
	v.Height = r.number()
	v.Round = r.small(mostNumber)
	r.fill(v.Block[:])
	v.By = r.small(mostNumber)
	r.fill(v.Sig[:])
	return v, !r.wrong
}

// readProposal: the proposal of a list; false, if it is none. Whether its block is right is not asked.
func readProposal(x rlp.Item) (proposal, bool) {
	r := listed(x, 6)
	var p proposal
	p.Height = r.number()
	p.Round = r.small(mostNumber)
	p.Valid = r.small(mostNumber+1) - 1
	b, ok := readBlock(r.next())
	p.Block = api.Block(b)
	p.By = r.small(mostNumber)
	r.fill(p.Sig[:])
	return p, ok && !r.wrong
}

// readCommit: the commit of a list; false, if it is none.
func readCommit(x rlp.Item) (commit, bool) {
	r := listed(x, 4)
	var c commit
	c.Height = r.number()
	c.Round = r.small(mostNumber)
	r.fill(c.Block[:])
	for _, y := range r.list() {
		v, ok := readVote(y)
		c.Votes = append(c.Votes, api.Vote(v))
		r.wrong = r.wrong || !ok
	}
	return c, !r.wrong
}

// reader: takes the items of a list, one behind the other; wrong, once one can't stand in its place: from then on there are none.
type reader struct {
	items []rlp.Item
	wrong bool
}

// listed: the reader of a list of so many items.
func listed(x rlp.Item, n int) *reader {
	return &reader{items: x.Items, wrong: len(x.Items) != n}
}

func (r *reader) next() rlp.Item {
	if r.wrong {
		return rlp.Item{}
	}
	x := r.items[0]
	r.items = r.items[1:]
	return x
}

func (r *reader) number() uint64 {
	n, err := rlp.Uint(r.next())
	r.wrong = r.wrong || err != api.OK
	return n
}

// small: a number that is no greater than that.
func (r *reader) small(most uint64) int {
	n := r.number()
	r.wrong = r.wrong || n > most
	return int(n)
}

// capped: a number, or, if it is too great to be written, the least that is so.
func (r *reader) capped() int { return int(min(r.number(), mostNumber+1)) }

// fill: just as many bytes as there is room, which a list has not.
func (r *reader) fill(room []byte) {
	b := r.next().Bytes
	r.wrong = r.wrong || len(b) != len(room)
	copy(room, b)
}

func (r *reader) list() []rlp.Item {
	x := r.next()
	r.wrong = r.wrong || !x.List
	return x.Items
}
