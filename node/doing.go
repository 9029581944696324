package node

import (
	"bytes"
	"iter"

	"conclave/api"
	"conclave/bft"
	"conclave/chain"
	"conclave/signer"
)

// Which of a timer.
const (
	waitProposal   = 1 // to this one bft tells them
	waitPrevotes   = 2
	waitPrecommits = 3
	sendAgain      = 4
	heightBegins   = 5
)

// Steps of a round that are signed.
const (
	proposes   = 1
	prevotes   = 2
	precommits = 3
)

const (
	toAll     = -1
	mostAgain = 512  // messages that are sent again at once
	slowest   = 1000 // rounds behind which delays grow no more
)

// doing: a call of a node, which puts together an Act. What the machine tells is done in the order in which it was told, however far the machine is by then: so marks of what is signed rise.
type doing struct {
	*Node
	told   []bft.Out // and not yet done
	says   [][]byte  // to all
	timers []Timer
}

// act: what came of the call, once all that was told is done, or the node has halted.
func (d *doing) act() Act {
	do := [...]func(o bft.Out){
		bft.Propose:   d.propose,
		bft.Prevote:   d.prevote,
		bft.Precommit: d.precommit,
		bft.Timer:     d.timer,
		bft.Commit:    d.commit,
	}
	for len(d.told) > 0 && !d.halted() {
		o := d.told[0]
		d.told = d.told[1:]
		do[o.Kind](o)
	}
	a := Act{Timers: d.timers}
	for s := range sends(d.says) {
		a.Sends = append(a.Sends, s)
	}
	return a
}

// sends: messages to all, in memory of their own.
func sends(says [][]byte) iter.Seq[Send] {
	return func(yield func(Send) bool) {
		for _, data := range says {
			if !yield(Send{To: toAll, Data: bytes.Clone(data)}) {
				return
			}
		}
	}
}

// begin: the current height does, if it has not.
func (d *doing) begin() {
	h := &d.current
	if h.begun {
		return
	}
	h.begun = true
	if mark, note := d.signer.Last(); mark.Height == d.height() {
		h.machine.Restore(note) // of a note that is none nothing changes
		s := h.machine.State()
		for _, v := range h.machine.Votes(api.Prevote, s.Valid, s.ValidHash) {
			d.keep(voteMessage(v))
		}
	}
	d.told = append(h.machine.Start(), again())
}

// again: the timer by which messages are sent again, as if the machine had told it.
func again() bft.Out { return bft.Out{Kind: bft.Timer, Which: sendAgain} }

// propose: the block that the machine has, or a new one.
func (d *doing) propose(o bft.Out) {
	p := api.Proposal{Height: d.height(), Round: o.Round, Valid: o.Valid, Block: o.Block, By: d.me}
	if !o.Has {
		p.Block = d.newBlock(o.Round)
	}
	sig, ok := d.sign(o.Round, proposes, chain.ProposalBytes(d.genesis.Chain, p))
	if !ok {
		return
	}
	p.Sig = sig
	b, _ := chain.EncodeProposal(p) // its block is right
	d.say(message(KProposal, b))
	d.told = append(d.told, d.current.machine.Propose(p)...)
}

func (d *doing) prevote(o bft.Out) { d.vote(api.Prevote, prevotes, o) }

func (d *doing) precommit(o bft.Out) { d.vote(api.Precommit, precommits, o) }

// vote: for a block, or for none.
func (d *doing) vote(kind, step int, o bft.Out) {
	v := api.Vote{Kind: kind, Height: d.height(), Round: o.Round, Block: o.Hash, By: d.me}
	sig, ok := d.sign(o.Round, step, chain.VoteBytes(d.genesis.Chain, v))
	if !ok {
		return
	}
	v.Sig = sig
	d.say(voteMessage(v))
	d.told = append(d.told, d.current.machine.Vote(v)...)
}

// sign: the signature of a text for a step of a round; false: there is none, since something else was signed there, or the signer failed.
func (d *doing) sign(round, step int, text []byte) (api.Sig, bool) {
	mark := signer.Mark{Height: d.height(), Round: round, Step: step}
	sig, err := d.signer.Sign(mark, text, d.current.machine.Save())
	switch {
	case err == api.ErrSigned:
	case err != api.OK:
		d.halt(err)
	case d.signer.Halted():
		d.halt(d.trimError())
	}
	return sig, err == api.OK
}

// trimError: why the signer has halted, though it told a signature. It tells no error then, but that of the next call would be ErrHalt.
func (d *doing) trimError() api.Errno {
	if d.disk.Down() {
		return api.ErrCrash
	}
	return api.ErrHalt
}

// say: a message of the node's own to all, now and when messages are sent again.
func (d *doing) say(data []byte) {
	d.says = append(d.says, data)
	d.keep(data)
}

// timer: of the current height.
func (d *doing) timer(o bft.Out) {
	d.timers = append(d.timers, Timer{Height: d.height(), Round: o.Round, Which: o.Which, Delay: delay(o.Which, o.Round)})
}

// delay: in ticks.
func delay(which, round int) int {
	switch which {
	case sendAgain:
		return 25
	case heightBegins:
		return 5
	case waitProposal:
		return 30 + 10*min(round, slowest)
	}
	return 10 + 10*min(round, slowest)
}

// commit: the machine has a block, and votes for it.
func (d *doing) commit(o bft.Out) {
	votes := d.current.machine.Votes(api.Precommit, o.Round, o.Hash)
	d.goOn(o.Block, api.Commit{
		Height: d.height(),
		Round:  o.Round,
		Block:  o.Hash,
		Votes:  votes[:chain.Quorum(d.many())],
	})
}

// goOn: a block is committed, and the next height is there; what its machine told besides is of no use any more.
func (d *doing) goOn(b api.Block, c api.Commit) {
	if err := d.add(b, c); err != api.OK {
		d.halt(err)
		return
	}
	d.clean(b)
	d.come()
	d.told = nil
	d.timer(bft.Out{Which: heightBegins})
}

// message: of a kind.
func message(kind byte, body []byte) []byte { return append([]byte{kind}, body...) }

func voteMessage(v api.Vote) []byte {
	b, _ := chain.EncodeVote(v) // what a machine has can be written
	return message(KVote, b)
}
