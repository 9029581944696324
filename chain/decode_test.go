package chain_test

import (
	"bytes"
	"fmt"
	"math/rand/v2"
	"slices"
	"testing"

	"conclave/api"
	"conclave/chain"
)

func decodedBlock(b []byte) string {
	x, err := chain.DecodeBlock(b)
	return fmt.Sprint(int(err), " ", seenBlock(x))
}

func decodedVote(b []byte) string {
	x, err := chain.DecodeVote(b)
	return fmt.Sprint(int(err), " ", seenVote(x))
}

func decodedProposal(b []byte) string {
	x, err := chain.DecodeProposal(b)
	return fmt.Sprint(int(err), " ", seenProposal(x))
}

func decodedCommit(b []byte) string {
	x, err := chain.DecodeCommit(b)
	return fmt.Sprint(int(err), " ", seenCommit(x))
}

// The words said over again.

func plainDecodedBlock(b []byte) string {
	x, err := plainDecode(b, "nhhnnt", blockOf, blockError)
	return fmt.Sprint(int(err), " ", seenBlock(x))
}

func plainDecodedVote(b []byte) string {
	x, err := plainDecode(b, "inihis", voteOf, voteError)
	return fmt.Sprint(int(err), " ", seenVote(x))
}

func plainDecodedProposal(b []byte) string {
	x, err := plainDecode(b, "nivbis", proposalOf, proposalError)
	return fmt.Sprint(int(err), " ", seenProposal(x))
}

func plainDecodedCommit(b []byte) string {
	x, err := plainDecode(b, "nihl", commitOf, commitError)
	return fmt.Sprint(int(err), " ", seenCommit(x))
}

// kind: something that can be decoded, by itself or within something else.
type kind struct {
	name   string
	parts  [][]byte                 // its items, as encodings
	shape  string                   // a letter for each, as plain_test.go has them
	inside func(item []byte) []byte // the encoding around it
	decode func(b []byte) string
	plain  func(b []byte) string
	zero   string
}

func itself(item []byte) []byte { return item }

// replaced: a copy of a list with another element.
func replaced(parts [][]byte, i int, part []byte) [][]byte {
	out := slices.Clone(parts)
	out[i] = part
	return out
}

func kinds() []kind {
	inProposal := func(item []byte) []byte { return plainList(replaced(proposalParts(someProposal()), 3, item)...) }
	inCommit := func(at int) func(item []byte) []byte {
		return func(item []byte) []byte {
			var votes [][]byte
			for _, v := range someCommit().Votes {
				votes = append(votes, plainVote(v))
			}
			votes[at] = item
			return plainList(replaced(commitParts(someCommit()), 3, plainList(votes...))...)
		}
	}
	block, vote := seenBlock(api.Block{}), seenVote(api.Vote{})
	proposal, commit := seenProposal(api.Proposal{}), seenCommit(api.Commit{})
	return []kind{
		{"a block", blockParts(someBlock()), "nhhnnt", itself, decodedBlock, plainDecodedBlock, block},
		{"a vote", voteParts(someVote()), "inihis", itself, decodedVote, plainDecodedVote, vote},
		{"a proposal", proposalParts(someProposal()), "nivbis", itself, decodedProposal, plainDecodedProposal, proposal},
		{"a commit", commitParts(someCommit()), "nihl", itself, decodedCommit, plainDecodedCommit, commit},
		{"a block in a proposal", blockParts(someBlock()), "nhhnnt", inProposal, decodedProposal, plainDecodedProposal, proposal},
		{"the first vote of a commit", voteParts(someVote()), "inihis", inCommit(0), decodedCommit, plainDecodedCommit, commit},
		{"the last vote of a commit", voteParts(someVote()), "inihis", inCommit(2), decodedCommit, plainDecodedCommit, commit},
	}
}

// with: the encoding with another item.
func (k kind) with(i int, part []byte) []byte {
	return k.inside(plainList(replaced(k.parts, i, part)...))
}

// refuses: Decode tells the error, and nothing else; so say the words.
func (k kind) refuses(t *testing.T, what string, b []byte, want api.Errno) {
	t.Helper()
	is(t, "Decode of "+k.name+": "+what, k.decode(b), fmt.Sprint(int(want), " ", k.zero))
	is(t, "the words on "+k.name+": "+what, k.plain(b), fmt.Sprint(int(want), " ", k.zero))
}

// takes: Decode tells it, as the words do.
func (k kind) takes(t *testing.T, what string, b []byte) {
	t.Helper()
	got := k.decode(b)
	is(t, "Decode of "+k.name+": "+what, got, k.plain(b))
	is(t, "Decode of "+k.name+": "+what, got[:2], "0 ")
}

// P1502: what is no item: rlp's error.
func TestDecodeNoItem(t *testing.T) {
	deep := unhex("c0")
	for range 16 {
		deep = plainList(deep)
	}
	for _, k := range kinds() {
		enc := k.inside(plainList(k.parts...))
		k.takes(t, "it", enc)
		k.refuses(t, "nil", nil, api.ErrEnd)
		k.refuses(t, "no bytes", []byte{}, api.ErrEnd)
		k.refuses(t, "a byte below 80 with a head", unhex("8105"), api.ErrRlp)
		k.refuses(t, "a head that is too long", unhex("b801ff"), api.ErrRlp)
		k.refuses(t, "a list's head alone", unhex("c1"), api.ErrEnd)
		k.refuses(t, "a byte behind it", append(slices.Clone(enc), 0), api.ErrRlp)
		k.refuses(t, "it twice", slices.Concat(enc, enc), api.ErrRlp)
		k.refuses(t, "far too much", make([]byte, 65537), api.ErrBig)
		for n := range enc {
			k.refuses(t, fmt.Sprint("the first bytes: ", n), enc[:n], api.ErrEnd)
		}
		k.refuses(t, "lists that are too deep", deep, api.ErrBig)
		for i := range k.parts {
			k.refuses(t, "lists that are too deep within it", k.with(i, deep), api.ErrBig)
			k.refuses(t, "what is no item within it", k.with(i, unhex("8100")), api.ErrRlp)
		}
	}
}

// P1502: what is an item, but no list, or a list of another length.
func TestDecodeNoList(t *testing.T) {
	for _, k := range kinds() {
		k.refuses(t, "nothing", k.inside(unhex("80")), api.ErrRlp)
		k.refuses(t, "a byte", k.inside(unhex("05")), api.ErrRlp)
		k.refuses(t, "bytes", k.inside(unhex("83646f67")), api.ErrRlp)
		k.refuses(t, "its encoding as bytes", k.inside(plainStr(plainList(k.parts...))), api.ErrRlp)
		k.refuses(t, "it in a list", k.inside(plainList(plainList(k.parts...))), api.ErrRlp)
		for n, part := range k.parts {
			k.refuses(t, fmt.Sprint("items: ", n), k.inside(plainList(k.parts[:n]...)), api.ErrRlp)
			k.refuses(t, fmt.Sprint("all items but ", n), k.inside(plainList(slices.Delete(slices.Clone(k.parts), n, n+1)...)), api.ErrRlp)
			k.refuses(t, fmt.Sprint("one item twice: ", n), k.inside(plainList(slices.Insert(slices.Clone(k.parts), n, part)...)), api.ErrRlp)
		}
		for _, more := range []string{"80", "05", "c0"} {
			k.refuses(t, "one item more", k.inside(plainList(append(slices.Clone(k.parts), unhex(more))...)), api.ErrRlp)
		}
	}
}

// P1502: each item as a list, and what should be a list as bytes, or as a list of the other.
func TestDecodeListInPlace(t *testing.T) {
	for _, k := range kinds() {
		for i, letter := range k.shape {
			what := fmt.Sprint("item ", i)
			switch letter {
			case 't', 'l', 'b':
				for _, other := range []string{"80", "05", "83646f67", "b840" + fmt.Sprintf("%x", sig(1))} {
					k.refuses(t, "bytes as "+what, k.with(i, unhex(other)), api.ErrRlp)
				}
				k.refuses(t, "its encoding as bytes as "+what, k.with(i, plainStr(k.parts[i])), api.ErrRlp)
				k.refuses(t, "a list of it as "+what, k.with(i, plainList(k.parts[i])), api.ErrRlp)
				k.refuses(t, "a list of lists as "+what, k.with(i, plainList(unhex("c0"))), api.ErrRlp)
				k.refuses(t, "a list of bytes and a list as "+what, k.with(i, plainList(unhex("05"), unhex("c0"))), api.ErrRlp)
			default:
				k.refuses(t, "an empty list as "+what, k.with(i, unhex("c0")), api.ErrRlp)
				k.refuses(t, "a list of it as "+what, k.with(i, plainList(k.parts[i])), api.ErrRlp)
				for _, n := range []int{1, 32, 64} {
					k.refuses(t, "a list of so many items as "+what, k.with(i, plainList(make([]byte, n))), api.ErrRlp)
				}
			}
			switch letter {
			case 't', 'l':
				k.takes(t, "an empty list as "+what, k.with(i, unhex("c0")))
			case 'b':
				k.refuses(t, "an empty list as "+what, k.with(i, unhex("c0")), api.ErrRlp)
			}
		}
	}
}

// beyond: the error of a number that is above 2^31 - 1: in a block it is one that is not right, anywhere else there is no such list.
func (k kind) beyond() api.Errno {
	if k.shape == "nhhnnt" {
		return api.ErrBlock
	}
	return api.ErrRlp
}

// P1502: numbers at their lengths and their limits, and with a 0 ahead.
func TestDecodeNumbers(t *testing.T) {
	for _, k := range kinds() {
		for i, letter := range k.shape {
			if letter != 'n' && letter != 'i' && letter != 'v' {
				continue
			}
			what := fmt.Sprint("item ", i)
			most := uint64(1<<31 - 1)
			switch {
			case i == 0 && letter == 'n' || k.shape == "inihis" && i == 1:
				most = 1<<64 - 1 // a height
			case letter == 'v':
				most++
			}
			for _, n := range append(heights(), 1<<31-2, 1<<31+1, 1<<31+2, 1<<32-2, 1<<40, 1<<63+1) {
				switch what := fmt.Sprint(what, " of ", n); {
				case n == 0 && i == 0 && k.beyond() == api.ErrBlock:
					k.refuses(t, what, k.with(i, plainNum(n)), api.ErrBlock)
				case n <= most:
					k.takes(t, what, k.with(i, plainNum(n)))
				default:
					k.refuses(t, what, k.with(i, plainNum(n)), k.beyond())
				}
			}
			for n := 1; n <= 40; n++ {
				full := bytes.Repeat([]byte{0xff}, n)
				if n > 8 {
					k.refuses(t, fmt.Sprint(what, " of so many bytes: ", n), k.with(i, plainStr(full)), api.ErrRlp)
					full[0] = 1
					clear(full[1:])
					k.refuses(t, fmt.Sprint(what, " of so many bytes: ", n), k.with(i, plainStr(full)), api.ErrRlp)
				}
				full[0] = 0
				k.refuses(t, fmt.Sprint(what, " with a 0 ahead, of so many bytes: ", n), k.with(i, plainStr(full)), api.ErrRlp)
				k.refuses(t, fmt.Sprint(what, " of so many noughts: ", n), k.with(i, plainStr(make([]byte, n))), api.ErrRlp)
			}
		}
	}
}

// P1502: hashes and signatures of other lengths.
func TestDecodeLengths(t *testing.T) {
	for _, k := range kinds() {
		for i, letter := range k.shape {
			right := map[rune]int{'h': 32, 's': 64}[letter]
			if right == 0 {
				continue
			}
			for n := range 130 {
				what := fmt.Sprint("item ", i, " of so many bytes: ", n)
				if n == right {
					k.takes(t, what, k.with(i, plainStr(data(n))))
				} else {
					k.refuses(t, what, k.with(i, plainStr(data(n))), api.ErrRlp)
				}
			}
		}
	}
}

// P1502: blocks that are no block: ErrBlock, in their own encoding and within a proposal.
func TestDecodeNotRight(t *testing.T) {
	all := kinds()
	for _, k := range []kind{all[0], all[4]} {
		rows := []struct {
			what string
			b    api.Block
		}{
			{"Height 0", change(someBlock(), func(b *api.Block) { b.Height = 0 })},
			{"65 Txs", change(someBlock(), func(b *api.Block) { b.Txs = make([][]byte, 65) })},
			{"1000 Txs", change(someBlock(), func(b *api.Block) { b.Txs = make([][]byte, 1000) })},
			{"24577 bytes", blockOfSize(24577, 1)},
			{"24577 bytes in 64 Txs", blockOfSize(24577, 64)},
			{"60000 bytes", blockOfSize(60000, 2)},
			{"Proposer 2^31", change(someBlock(), func(b *api.Block) { b.Proposer = 1 << 31 })},
			{"Round 2^31", change(someBlock(), func(b *api.Block) { b.Round = 1 << 31 })},
			{"Round 2^62", change(someBlock(), func(b *api.Block) { b.Round = 1 << 62 })},
		}
		for _, r := range rows {
			k.refuses(t, r.what, k.inside(plainBlock(r.b)), api.ErrBlock)
			parts := blockParts(r.b)
			k.refuses(t, r.what+", without Round", k.inside(plainList(slices.Delete(slices.Clone(parts), 4, 5)...)), api.ErrRlp)
			k.refuses(t, r.what+", with a Prev that is too short", k.inside(plainList(replaced(parts, 1, plainStr(data(31)))...)), api.ErrRlp)
			k.refuses(t, r.what+", with something behind", append(k.inside(plainBlock(r.b)), 5), api.ErrRlp)
			if k.name == "a block in a proposal" {
				p := change(someProposal(), func(p *api.Proposal) { p.Block = r.b })
				k.refuses(t, r.what+", with a Sig that is too short", plainList(replaced(proposalParts(p), 5, plainStr(data(63)))...), api.ErrRlp)
				k.refuses(t, r.what+", with a By that is too great", plainList(replaced(proposalParts(p), 4, plainNum(1<<31))...), api.ErrRlp)
				k.refuses(t, r.what+", with a Round that is too great", plainList(replaced(proposalParts(p), 1, plainNum(1<<31))...), api.ErrRlp)
			}
		}
		k.takes(t, "64 Txs", k.inside(plainBlock(change(someBlock(), func(b *api.Block) { b.Txs = make([][]byte, 64) }))))
		k.takes(t, "24576 bytes", k.inside(plainBlock(blockOfSize(24576, 1))))
		k.takes(t, "24576 bytes in 64 Txs", k.inside(plainBlock(blockOfSize(24576, 64))))
		k.refuses(t, "a Tx that is a list, among too many", k.with(5, plainList(append(slices.Repeat([][]byte{{5}}, 70), unhex("c0"))...)), api.ErrRlp)
	}
	all[0].refuses(t, "more than rlp takes", plainBlock(blockOfSize(65537, 1)), api.ErrBig)
	all[4].refuses(t, "more than rlp takes", all[4].inside(plainBlock(blockOfSize(65500, 1))), api.ErrBig)
}

// P1502: one thing's encoding is not another's.
func TestDecodeOthers(t *testing.T) {
	all := kinds()[:4]
	for i, k := range all {
		for j, other := range all {
			enc := plainList(other.parts...)
			if i == j {
				k.takes(t, "it", enc)
			} else {
				k.refuses(t, "the encoding of "+other.name, enc, api.ErrRlp)
			}
		}
	}
}

// P1502: Decode of what has many votes or Txs; each has its own.
func TestDecodeMany(t *testing.T) {
	c := api.Commit{Height: 5, Round: 6, Block: hash(7)}
	for i := range 500 {
		c.Votes = append(c.Votes, api.Vote{Kind: i % 5, Height: uint64(i * i), Round: i * 3, Block: hash(byte(i)), By: 500 - i, Sig: sig(byte(i))})
	}
	is(t, "many votes", decodedCommit(plainCommit(c)), "0 "+seenCommit(c))
	b := api.Block{Height: 5}
	for i := range 64 {
		b.Txs = append(b.Txs, data(i*5))
	}
	is(t, "many Txs", decodedBlock(plainBlock(b)), "0 "+seenBlock(b))
}

// drawnItem: another item in the place of one: of any kind, about the lengths that there are.
func drawnItem(r *rand.Rand, was []byte) []byte {
	switch r.IntN(8) {
	case 0:
		return plainStr(data(r.IntN(12)))
	case 1:
		return plainStr(data([]int{31, 32, 33, 63, 64, 65}[r.IntN(6)]))
	case 2:
		return plainNum(r.Uint64() >> r.IntN(64))
	case 3:
		return plainNum([]uint64{0, 1, 1<<31 - 1, 1 << 31, 1<<31 + 1, 1<<64 - 1}[r.IntN(6)])
	case 4:
		return plainStr(append([]byte{0}, data(r.IntN(9))...))
	case 5:
		return plainList(was)
	case 6:
		return plainList(slices.Repeat([][]byte{{5}, {0xc0}}[r.IntN(2):][:1], r.IntN(70))...)
	}
	return was
}

// drawnEncoding: with an item or two that are drawn, now and then with a byte that is changed, or cut off.
func drawnEncoding(r *rand.Rand, k kind) []byte {
	parts := slices.Clone(k.parts)
	for range r.IntN(3) {
		i := r.IntN(len(parts))
		parts[i] = drawnItem(r, parts[i])
	}
	switch r.IntN(20) {
	case 0:
		parts = parts[:len(parts)-1]
	case 1:
		parts = append(parts, plainNum(r.Uint64N(300)))
	}
	b := k.inside(plainList(parts...))
	switch r.IntN(10) {
	case 0:
		b[r.IntN(len(b))] = byte(r.Uint32())
	case 1:
		b = b[:r.IntN(len(b)+1)]
	}
	return b
}

// again: the encoding of what an encoding is, by the package's functions alone; nothing, if it is none.
func again(b []byte, name string) ([]byte, bool) {
	var enc []byte
	var err, no api.Errno
	switch name {
	case "a block":
		var x api.Block
		x, err = chain.DecodeBlock(b)
		enc, no = chain.EncodeBlock(x)
	case "a vote":
		var x api.Vote
		x, err = chain.DecodeVote(b)
		enc, no = chain.EncodeVote(x)
	case "a proposal", "a block in a proposal":
		var x api.Proposal
		x, err = chain.DecodeProposal(b)
		enc, no = chain.EncodeProposal(x)
	default:
		var x api.Commit
		x, err = chain.DecodeCommit(b)
		enc, no = chain.EncodeCommit(x)
	}
	return enc, err == api.OK && no == api.OK
}

// P1502, P1505: drawn encodings against the words said over again; what can be read is written so again.
func TestDecodeDrawn(t *testing.T) {
	r := rand.New(rand.NewPCG(15, 1))
	for _, k := range kinds() {
		met := map[string]int{}
		for range 4000 {
			b := drawnEncoding(r, k)
			got, want := k.decode(b), k.plain(b)
			if got != want {
				t.Fatalf("Decode of %s, %x: %s, not %s", k.name, b, got, want)
			}
			met[got[:2]]++
			if enc, ok := again(b, k.name); got[:2] == "0 " && (!ok || !bytes.Equal(enc, b)) {
				t.Fatalf("Encode of Decode of %s: %x, not %x", k.name, enc, b)
			}
		}
		for _, err := range []string{"0 ", "10", "11"} {
			if met[err] < 50 {
				t.Errorf("%s: just %d times: %s", k.name, met[err], err)
			}
		}
	}
}

// P1505: a right encoding with any one byte changed is another thing, or none: it is never read as the same one.
func TestOneWayAlone(t *testing.T) {
	for _, k := range kinds() {
		enc := k.inside(plainList(k.parts...))
		was := k.decode(enc)
		for i := range enc {
			for _, flip := range []byte{1, 2, 0x40, 0x80, 0xff} {
				b := slices.Clone(enc)
				b[i] ^= flip
				got := k.decode(b)
				if got == was {
					t.Errorf("%s: %x is read as %x is", k.name, b, enc)
				}
				is(t, fmt.Sprintf("Decode of %s: %x", k.name, b), got, k.plain(b))
			}
		}
	}
}
