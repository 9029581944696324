package bft_test

import (
	"bytes"
	"fmt"
	"math"
	"slices"
	"testing"

	"conclave/api"
	"conclave/bft"
	"conclave/chain"
)

// parts: of a saved text, each as its encoding; the votes for themselves.
type parts struct {
	round, step, locked, lockedBlock, valid, validBlock []byte
	votes                                               [][]byte
}

func (p parts) text() []byte {
	return plainList(p.round, p.step, p.locked, p.lockedBlock, p.valid, p.validBlock, plainList(p.votes...))
}

func blockPart(b api.Block) []byte { return plainStr(plainBlockBytes(b)) }

// votePart: a vote's encoding, whatever its numbers.
func votePart(v api.Vote) []byte {
	return plainStr(plainList(plainNum(v.Kind), plainNum(int(v.Height)), plainNum(v.Round), plainStr(v.Block[:]), plainNum(v.By), plainStr(v.Sig[:])))
}

// whole: of four validators, in round 5, at step 2, locked in round 1 on block 1, block 2 valid in round 3.
func whole() parts {
	p := parts{
		round: plainNum(5), step: plainNum(2),
		locked: plainNum(2), lockedBlock: blockPart(block(1)),
		valid: plainNum(4), validBlock: blockPart(block(2)),
	}
	for _, by := range []int{0, 2, 3} {
		p.votes = append(p.votes, votePart(prevote(3, by, 2)))
	}
	return p
}

// bare: a new machine's.
func bare() parts {
	none := plainNum(0)
	return parts{round: none, step: none, locked: none, lockedBlock: none, valid: none, validBlock: none}
}

// changedParts: those parts with something else.
func changedParts(p parts, how func(p *parts)) []byte {
	p.votes = slices.Clone(p.votes)
	how(&p)
	return p.text()
}

const wholeState = "round 5 step 2 locked 1 on b1 valid 3 is b2"

// P1801: Save of a new machine, and of one with all that can be saved, byte by byte; Restore of it.
func TestSave(t *testing.T) {
	m := made(t, 4, 0)
	if got := m.Save(); !bytes.Equal(got, bare().text()) || !bytes.Equal(got, []byte{0xc7, 0x80, 0x80, 0x80, 0x80, 0x80, 0x80, 0xc0}) {
		t.Errorf("new: %x", got)
	}
	is(t, "Restore", m.Restore(whole().text()), api.OK)
	stands(t, "restored", m, wholeState+" not started")
	if got := m.Save(); !bytes.Equal(got, whole().text()) {
		t.Errorf("saved again: %x, not %x", got, whole().text())
	}
	says(t, "Start", m.Start(), "timer 5 which 2")
	stands(t, "started", m, wholeState)
	if got := m.Save(); !bytes.Equal(got, whole().text()) {
		t.Errorf("started: %x, not %x", got, whole().text())
	}
}

// P1801: Save of a machine that lived, at each of its steps: just the prevotes for the valid block in its round, all of them.
func TestSaveLived(t *testing.T) {
	m := at(t, 4, 1, 0)
	saves := func(what string, p parts) {
		t.Helper()
		if got := m.Save(); !bytes.Equal(got, p.text()) {
			t.Errorf("%s: %x, not %x", what, got, p.text())
		}
	}
	p := bare()
	p.step = plainNum(1)
	saves("started", p)
	m.Propose(proposal(4, 0, -1, 1))
	p.step = plainNum(2)
	votes(m, prevote, 0, 1, 3)
	votes(m, prevote, 0, 2, 1)
	votes(m, precommit, 0, 1, 1)
	saves("prevoted", p)
	votes(m, prevote, 0, 1, 1, 0)
	p.step, p.locked, p.valid, p.lockedBlock, p.validBlock = plainNum(3), plainNum(1), plainNum(1), blockPart(block(1)), blockPart(block(1))
	p.votes = [][]byte{votePart(prevote(0, 0, 1)), votePart(prevote(0, 1, 1)), votePart(prevote(0, 3, 1))}
	saves("locked", p)
	again := prevote(0, 2, 1)
	again.Sig = api.Sig{9, 9}
	m.Vote(again)
	m.Vote(prevote(0, 2, 1))
	p.votes = slices.Insert(p.votes, 2, votePart(again))
	saves("one vote more", p)
	m.Timeout(3, 0)
	m.Propose(proposal(4, 1, -1, 2))
	m.Timeout(2, 1)
	votes(m, prevote, 1, 1, 0, 1, 2)
	p.round = plainNum(1)
	saves("the next round", p)
	votes(m, prevote, 1, 2, 2, 1, 0)
	p.valid, p.validBlock = plainNum(2), blockPart(block(2))
	p.votes = [][]byte{votePart(prevote(1, 0, 2)), votePart(prevote(1, 1, 2)), votePart(prevote(1, 2, 2))}
	saves("another block valid", p)
	votes(m, precommit, 1, 2, 0, 1, 2)
	saves("done", p)
	m.Vote(prevote(1, 3, 2))
	p.votes = append(p.votes, votePart(prevote(1, 3, 2)))
	saves("done, one vote more", p)
}

// P1801: what Save gave of machines with the longest blocks and the most votes, in the last round.
func TestSaveLong(t *testing.T) {
	long, last := blockOf(t, api.MaxBlock), highest
	h := chain.Hash(long)
	p := parts{round: plainNum(last), step: plainNum(3), locked: plainNum(last + 1), lockedBlock: blockPart(long), valid: plainNum(last + 1), validBlock: blockPart(long)}
	for by := range api.MaxNodes {
		p.votes = append(p.votes, votePart(api.Vote{Kind: 1, Height: tall, Round: last, Block: h, By: by, Sig: api.Sig{byte(by)}}))
	}
	m := made(t, api.MaxNodes, 15)
	is(t, "Restore", m.Restore(p.text()), api.OK)
	if got := m.Save(); !bytes.Equal(got, p.text()) {
		t.Errorf("saved again: %x", got)
	}
	if s := m.State(); s != (bft.State{Round: last, Step: 3, Locked: last, Valid: last, LockedHash: h, ValidHash: h}) {
		t.Errorf("restored: %v", s)
	}
	if l := m.Votes(1, last, h); len(l) != api.MaxNodes {
		t.Errorf("votes: %d", len(l))
	}
}

// P1801: texts that are saved so, at the edges of what may stand there.
func TestRestore(t *testing.T) {
	votesOf := func(round, tag int, by ...int) (l [][]byte) {
		for _, b := range by {
			l = append(l, votePart(prevote(round, b, tag)))
		}
		return l
	}
	for want, how := range map[string]func(p *parts){
		wholeState: func(p *parts) {},
		"round 5 step 0 locked 1 on b1 valid 3 is b2": func(p *parts) { p.step = plainNum(0) },
		"round 5 step 1 locked 1 on b1 valid 3 is b2": func(p *parts) { p.step = plainNum(1) },
		"round 5 step 3 locked 1 on b1 valid 3 is b2": func(p *parts) { p.step = plainNum(3) },
		"round 3 step 2 locked 1 on b1 valid 3 is b2": func(p *parts) { p.round = plainNum(3) },
		"round 5 step 2 locked 5 on b1 valid 3 is b2": func(p *parts) { p.locked = plainNum(6) },
		"round 5 step 2 locked 0 on b1 valid 3 is b2": func(p *parts) { p.locked = plainNum(1) },
		"round 5 step 2 valid 3 is b2":                func(p *parts) { p.locked, p.lockedBlock = plainNum(0), plainNum(0) },
		"round 5 step 2 locked 1 on b2 valid 3 is b2": func(p *parts) { p.lockedBlock = p.validBlock },
		"round 5 step 2 locked 1 on b1 valid 5 is b2": func(p *parts) { p.valid, p.votes = plainNum(6), votesOf(5, 2, 1, 2, 3) },
		"round 5 step 2 locked 1 on b1 valid 0 is b2": func(p *parts) { p.valid, p.votes = plainNum(1), votesOf(0, 2, 0, 1, 2) },
		"round 5 step 2 locked 1 on b1":               func(p *parts) { p.valid, p.validBlock, p.votes = plainNum(0), plainNum(0), nil },
		"round 5 step 2":                              func(p *parts) { *p = bare(); p.round, p.step = plainNum(5), plainNum(2) },
		"round 2147483647 step 2 locked 1 on b1": func(p *parts) {
			*p = bare()
			p.round, p.step, p.locked, p.lockedBlock = plainNum(highest), plainNum(2), plainNum(2), blockPart(block(1))
		},
		"round 2147483647 step 2 locked 2147483647 on b1": func(p *parts) {
			*p = bare()
			p.round, p.step, p.locked, p.lockedBlock = plainNum(highest), plainNum(2), plainNum(highest+1), blockPart(block(1))
		},
	} {
		b := changedParts(whole(), how)
		m := made(t, 4, 0)
		is(t, want, m.Restore(b), api.OK)
		stands(t, "restored", m, want+" not started")
		if got := m.Save(); !bytes.Equal(got, b) {
			t.Errorf("%s: saved again: %x, not %x", want, got, b)
		}
	}
}

// wrongTexts: each with one thing by which it is not saved so.
func wrongTexts(t *testing.T) map[string][]byte {
	l := map[string][]byte{"nothing": nil, "a byte": {7}, "a long one": make([]byte, api.MaxRlp+1), "an empty list": {0xc0}, "bytes": plainStr(whole().text())}
	change := func(what string, how func(p *parts)) { l[what] = changedParts(whole(), how) }
	good := whole().text()
	l["cut"], l["something behind"] = good[:len(good)-1], append(slices.Clone(good), 0)
	p := whole()
	all := [][]byte{p.round, p.step, p.locked, p.lockedBlock, p.valid, p.validBlock, plainList(p.votes...)}
	for i := range all {
		l[fmt.Sprint("without item ", i)] = plainList(slices.Delete(slices.Clone(all), i, i+1)...)
		l[fmt.Sprint("one more ahead of item ", i)] = plainList(slices.Insert(slices.Clone(all), i, all[i])...)
		l[fmt.Sprint("an empty list for item ", i)] = plainList(slices.Concat(all[:i], [][]byte{{0xc0}}, all[i+1:])...)
		l[fmt.Sprint("item ", i, " within a list")] = plainList(slices.Concat(all[:i], [][]byte{plainList(all[i])}, all[i+1:])...)
		if i < 6 {
			l[fmt.Sprint("noughts ahead of item ", i)] = plainList(slices.Concat(all[:i], [][]byte{{0x82, 0, 1}}, all[i+1:])...)
			l[fmt.Sprint("a nought for item ", i)] = plainList(slices.Concat(all[:i], [][]byte{{0}}, all[i+1:])...)
		}
	}
	l["one more behind"] = plainList(append(all, plainNum(1))...)
	l["votes as bytes"] = plainList(append(all[:6:6], plainStr(all[6]))...)
	for _, big := range [][]byte{plainNum(highest + 1), plainNum(highest + 2), plainStr(bytes.Repeat([]byte{255}, 8)), plainStr(bytes.Repeat([]byte{1}, 9)), {0x85, 1, 0, 0, 0, 1}} {
		change(fmt.Sprintf("round %x", big), func(p *parts) { p.round = big })
		change(fmt.Sprintf("step %x", big), func(p *parts) { p.step = big })
		change(fmt.Sprintf("locked %x", big), func(p *parts) { p.locked = big })
		change(fmt.Sprintf("valid %x", big), func(p *parts) { p.valid = big })
		l[fmt.Sprintf("round %x of a bare one", big)] = changedParts(bare(), func(p *parts) { p.round = big })
		l[fmt.Sprintf("locked %x in the last round", big)] = changedParts(whole(), func(p *parts) {
			p.round = plainNum(highest)
			p.locked = append([]byte{0x85}, 1, 0, 0, 0, 2)
		})
	}
	for _, list := range [][]byte{{0xc0}, plainList(plainNum(0)), plainList(plainStr(plainBlockBytes(block(1))))} {
		l[fmt.Sprintf("no lock, but a list %x", list)] = changedParts(bare(), func(p *parts) { p.lockedBlock = list })
		l[fmt.Sprintf("nothing valid, but a list %x", list)] = changedParts(bare(), func(p *parts) { p.validBlock = list })
	}
	for step := 4; step < 9; step++ {
		change(fmt.Sprint("step ", step), func(p *parts) { p.step = plainNum(step) })
	}
	change("locked above the round", func(p *parts) { p.locked = plainNum(7) })
	change("valid above the round", func(p *parts) { p.round = plainNum(2) })
	change("locked far above the round", func(p *parts) { p.locked = plainNum(highest + 1) })
	change("no lock, but a block", func(p *parts) { p.locked = plainNum(0) })
	change("a lock without a block", func(p *parts) { p.lockedBlock = plainNum(0) })
	change("nothing valid, but a block", func(p *parts) { p.valid = plainNum(0) })
	change("nothing valid, but a block without votes", func(p *parts) { p.valid, p.votes = plainNum(0), nil })
	change("valid without a block", func(p *parts) { p.validBlock = plainNum(0) })
	change("valid without a block and votes", func(p *parts) { p.validBlock, p.votes = plainNum(0), nil })
	change("nothing valid, but votes", func(p *parts) { p.valid, p.validBlock = plainNum(0), plainNum(0) })
	for what, b := range wrongBlocks(t) {
		change("locked on a block: "+what, func(p *parts) { p.lockedBlock = b })
		change("valid is a block: "+what, func(p *parts) { p.validBlock = b })
	}
	for what, votes := range wrongPrevotes() {
		change("votes: "+what, func(p *parts) { p.votes = votes })
	}
	return l
}

// wrongBlocks: bytes that are no block of the height.
func wrongBlocks(t *testing.T) map[string][]byte {
	change := func(how func(b *api.Block)) []byte {
		b := block(1)
		how(&b)
		return blockPart(b)
	}
	return map[string][]byte{
		"of height 0":             change(func(b *api.Block) { b.Height = 0 }),
		"of the next height":      change(func(b *api.Block) { b.Height = tall + 1 }),
		"of the height ahead":     change(func(b *api.Block) { b.Height = tall - 1 }),
		"by a proposer too great": change(func(b *api.Block) { b.Proposer = highest + 1 }),
		"of a round too great":    change(func(b *api.Block) { b.Round = highest + 1 }),
		"with too many txs":       change(func(b *api.Block) { b.Txs = make([][]byte, api.MaxTxs+1) }),
		"too long":                blockPart(blockOf(t, api.MaxBlock+1)),
		"cut":                     plainStr(plainBlockBytes(block(1))[:20]),
		"with something behind":   plainStr(append(plainBlockBytes(block(1)), 0)),
		"not as bytes":            plainBlockBytes(block(1)),
		"a list":                  {0xc0},
		"an empty list as bytes":  plainStr([]byte{0xc0}),
		"a vote":                  votePart(prevote(3, 0, 2)),
	}
}

// wrongPrevotes: lists of votes that are not those of block 2 in round 3, by four validators.
func wrongPrevotes() map[string][][]byte {
	l := map[string][][]byte{"none": nil, "one": {votePart(prevote(3, 0, 2))}, "too few": {votePart(prevote(3, 0, 2)), votePart(prevote(3, 3, 2))}}
	change := func(what string, how func(v *api.Vote)) {
		for at := range 3 {
			p := whole()
			v := prevote(3, []int{0, 2, 3}[at], 2)
			how(&v)
			p.votes[at] = votePart(v)
			l[fmt.Sprint(what, " at ", at)] = p.votes
		}
	}
	change("a precommit", func(v *api.Vote) { v.Kind = api.Precommit })
	change("of kind 0", func(v *api.Vote) { v.Kind = 0 })
	change("of kind 3", func(v *api.Vote) { v.Kind = 3 })
	change("of the next height", func(v *api.Vote) { v.Height++ })
	change("of the height ahead", func(v *api.Vote) { v.Height-- })
	change("of the next round", func(v *api.Vote) { v.Round++ })
	change("of the round ahead", func(v *api.Vote) { v.Round-- })
	change("of a round too great", func(v *api.Vote) { v.Round = highest + 1 })
	change("for another block", func(v *api.Vote) { v.Block = hash(1) })
	change("for no block", func(v *api.Vote) { v.Block = hash(0) })
	change("by nobody", func(v *api.Vote) { v.By = 4 })
	change("by nobody, far away", func(v *api.Vote) { v.By = highest })
	change("by one too great", func(v *api.Vote) { v.By = highest + 1 })
	for _, by := range [][]int{{0, 0, 2}, {0, 2, 2}, {0, 2, 2, 3}, {0, 0, 2, 3}, {0, 2, 3, 3}, {2, 0, 3}, {0, 3, 2}, {3, 2, 0}, {3, 2, 1, 0}, {0, 1, 2, 3, 3}, {1, 2, 3, 0}, {0, 2, 4}, {0, 1, 2, 3, 4}, {0, 2, 3, 16}} {
		var votes [][]byte
		for _, b := range by {
			votes = append(votes, votePart(prevote(3, b, 2)))
		}
		l[fmt.Sprint("by ", by)] = votes
	}
	for what, part := range map[string][]byte{"nothing": plainNum(0), "an empty list": {0xc0}, "a list": plainList(plainNum(1)), "a block": blockPart(block(1)), "cut": plainStr([]byte{0xc1}), "a vote not as bytes": plainList(plainNum(1), plainNum(tall), plainNum(3), plainStr(make([]byte, 32)), plainNum(0), plainStr(make([]byte, 64)))} {
		for at := range 4 {
			l[fmt.Sprint(what, " at ", at)] = slices.Insert(whole().votes, at, part)
		}
	}
	return l
}

// P1801: each kind of malformed saved text: ErrRlp, and nothing has changed.
func TestRestoreWrong(t *testing.T) {
	for what, b := range wrongTexts(t) {
		m := made(t, 4, 1)
		is(t, what, m.Restore(b), api.ErrRlp)
		stands(t, what, m, "round 0 step 0 not started")
		m.Vote(prevote(3, 1, 2))
		is(t, what, m.Restore(whole().text()), api.OK)
		is(t, what+", again", m.Restore(b), api.ErrRlp)
		stands(t, what+", again", m, wholeState+" not started")
		has(t, what, m, 1, 3, 2, 0, 1, 2, 3)
		for round := range 7 {
			for tag := range 3 {
				if round != 3 || tag != 2 {
					has(t, what, m, 1, round, tag)
				}
				has(t, what, m, 2, round, tag)
			}
		}
	}
}

// P1801: just too few and just enough votes, for each number of validators.
func TestRestoreEnough(t *testing.T) {
	for n := 1; n <= api.MaxNodes; n++ {
		for many := range n + 1 {
			for _, by := range sets(n, many) {
				slices.Sort(by)
				b := changedParts(whole(), func(p *parts) {
					p.votes = nil
					for _, v := range by {
						p.votes = append(p.votes, votePart(prevote(3, v, 2)))
					}
				})
				want := api.OK
				if many < quorum(n) {
					want = api.ErrRlp
				}
				m := made(t, n, 0)
				is(t, fmt.Sprint("n ", n, ", votes by ", by), m.Restore(b), want)
				if want == api.OK {
					has(t, "restored", m, 1, 3, 2, by...)
				}
			}
		}
	}
}

// P1801: Restore of a machine that is started, or done: ErrArg, ahead of what the bytes are; and of one of another height.
func TestRestoreStarted(t *testing.T) {
	m := made(t, 1, 0)
	m.Start()
	good := m.Save()
	for _, b := range [][]byte{good, nil, []byte("junk"), make([]byte, api.MaxRlp+1)} {
		is(t, "started", m.Restore(b), api.ErrArg)
		stands(t, "started", m, "round 0 step 1")
	}
	m.Propose(proposal(1, 0, -1, 1))
	m.Vote(precommit(0, 0, 1))
	is(t, "done", m.Restore(good), api.ErrArg)
	is(t, "done", m.Restore(nil), api.ErrArg)
	stands(t, "done", m, "round 0 step 2 done")
	for _, height := range []uint64{1, tall - 1, tall + 1, math.MaxUint64} {
		m, _ := bft.New(4, 0, height, nil)
		is(t, "of another height", m.Restore(whole().text()), api.ErrRlp)
		is(t, "without blocks", m.Restore(bare().text()), api.OK)
	}
}

// P1801: what a machine has kept ahead of Restore stays, the first vote too; and Restore may come again.
func TestRestoreKeeps(t *testing.T) {
	m := made(t, 4, 1)
	early := prevote(3, 2, 2)
	early.Sig = api.Sig{42}
	m.Vote(early)
	m.Vote(precommit(5, 1, 3))
	m.Propose(proposal(4, 5, -1, 3))
	is(t, "Restore", m.Restore(whole().text()), api.OK)
	if got, want := fmt.Sprint(m.Votes(1, 3, hash(2))), fmt.Sprint([]api.Vote{prevote(3, 0, 2), early, prevote(3, 3, 2)}); got != want {
		t.Errorf("votes: %s, not %s", got, want)
	}
	has(t, "a precommit", m, 2, 5, 3, 1)
	is(t, "Restore again", m.Restore(bare().text()), api.OK)
	stands(t, "Restore again", m, "round 0 step 0 not started")
	if l := m.Votes(1, 3, hash(2)); len(l) != 3 {
		t.Errorf("votes: %v", l)
	}
	is(t, "and back", m.Restore(whole().text()), api.OK)
	says(t, "Start", m.Start(), "timer 5 which 2")
	says(t, "prevotes for the proposal that was kept", votes(m, prevote, 5, 3, 0, 2, 3), "timer 5 which 2; precommit 5 for b3")
	stands(t, "behind them", m, "round 5 step 3 locked 5 on b3 valid 5 is b3")
}

// P1801, P1802: Start of what was restored, at each step; the votes that are kept count.
func TestRestoreStart(t *testing.T) {
	for step, want := range []string{"timer 5 which 1", "timer 5 which 1", "timer 5 which 2", "timer 5 which 3"} {
		m := made(t, 4, 2)
		b := changedParts(whole(), func(p *parts) { p.step = plainNum(step) })
		is(t, "Restore", m.Restore(b), api.OK)
		says(t, fmt.Sprint("Start at step ", step), m.Start(), want)
		says(t, "Start again", m.Start(), "")
		stands(t, "Start", m, fmt.Sprint("round 5 step ", max(step, 1), wholeState[len("round 5 step 2"):]))
		says(t, "a proposal that its votes hold", m.Propose(proposal(4, 5, 3, 2)), []string{"prevote 5 for b2", "prevote 5 for b2", "", ""}[step])
	}
	for step, want := range []string{"propose 5 valid 3 has block b2; timer 5 which 1", "timer 5 which 1", "timer 5 which 2", "timer 5 which 3"} {
		m := made(t, 4, 0)
		is(t, "Restore", m.Restore(changedParts(whole(), func(p *parts) { p.step = plainNum(step) })), api.OK)
		says(t, fmt.Sprint("Start of who proposes, at step ", step), m.Start(), want)
	}
}

// P1801, P1805: a lock that was restored holds.
func TestRestoreLock(t *testing.T) {
	for _, valid := range []int{-1, 0, 1, 3, 4} {
		for tag := 1; tag <= 3; tag++ {
			m := made(t, 4, 2)
			is(t, "Restore", m.Restore(changedParts(whole(), func(p *parts) { p.step = plainNum(1) })), api.OK)
			m.Start()
			if valid >= 0 {
				votes(m, prevote, valid, tag, 0, 1, 2, 3)
			}
			want := "prevote 5 for " + fmt.Sprint("b", tag)
			if tag != 1 && valid < 1 {
				want = "prevote 5"
			}
			says(t, fmt.Sprint("b", tag, " valid in ", valid), m.Propose(proposal(4, 5, valid, tag)), want)
		}
	}
}

// P1801: what is restored is asked of right no more: it was right as it was kept.
func TestRestoreRight(t *testing.T) {
	asked := 0
	m := madeBy(t, 4, 0, func(api.Block) bool { asked++; return false })
	is(t, "Restore", m.Restore(whole().text()), api.OK)
	m.Start()
	says(t, "rounds later", append(m.Timeout(3, 5), append(m.Timeout(3, 6), append(m.Timeout(3, 7), m.Timeout(3, 8)...)...)...), "timer 6 which 1; timer 7 which 1; timer 8 which 1; propose 9 valid 3 has block b2; timer 9 which 1")
	if asked > 0 {
		t.Errorf("asked %d times", asked)
	}
}
