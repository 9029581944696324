package chain_test

import (
	"crypto/ed25519"
	"math/big"
	"slices"

	"conclave/api"
	"conclave/keccak"
	"conclave/rlp"
)

// The chapter's words said over again: encodings are put together byte by byte, the library signs, and numbers have no end.

func plainHead(low, high byte, n int) []byte {
	if n <= 55 {
		return []byte{low + byte(n)}
	}
	b := big.NewInt(int64(n)).Bytes()
	return append([]byte{high + byte(len(b))}, b...)
}

func plainStr(b []byte) []byte {
	if len(b) == 1 && b[0] < 0x80 {
		return slices.Clone(b)
	}
	return slices.Concat(plainHead(0x80, 0xb7, len(b)), b)
}

func plainNum(n uint64) []byte { return plainStr(new(big.Int).SetUint64(n).Bytes()) }

// plainInt: below 0 it counts as 0.
func plainInt(n int) []byte {
	if n < 0 {
		return plainNum(0)
	}
	return plainNum(uint64(n))
}

// plainSum: of a number and 1; below 0 it counts as 0.
func plainSum(n int) []byte {
	sum := new(big.Int).Add(big.NewInt(int64(n)), big.NewInt(1))
	if sum.Sign() < 0 {
		return plainNum(0)
	}
	return plainStr(sum.Bytes())
}

func plainList(parts ...[]byte) []byte {
	body := slices.Concat(parts...)
	return slices.Concat(plainHead(0xc0, 0xf7, len(body)), body)
}

// The encodings of items, whatever the numbers.

func blockParts(b api.Block) [][]byte {
	var txs [][]byte
	for _, t := range b.Txs {
		txs = append(txs, plainStr(t))
	}
	return [][]byte{plainNum(b.Height), plainStr(b.Prev[:]), plainStr(b.State[:]), plainInt(b.Proposer), plainInt(b.Round), plainList(txs...)}
}

func voteParts(v api.Vote) [][]byte {
	return [][]byte{plainInt(v.Kind), plainNum(v.Height), plainInt(v.Round), plainStr(v.Block[:]), plainInt(v.By), plainStr(v.Sig[:])}
}

func proposalParts(p api.Proposal) [][]byte {
	return [][]byte{plainNum(p.Height), plainInt(p.Round), plainSum(p.Valid), plainBlock(p.Block), plainInt(p.By), plainStr(p.Sig[:])}
}

func commitParts(c api.Commit) [][]byte {
	var votes [][]byte
	for _, v := range c.Votes {
		votes = append(votes, plainVote(v))
	}
	return [][]byte{plainNum(c.Height), plainInt(c.Round), plainStr(c.Block[:]), plainList(votes...)}
}

func plainBlock(b api.Block) []byte       { return plainList(blockParts(b)...) }
func plainVote(v api.Vote) []byte         { return plainList(voteParts(v)...) }
func plainProposal(p api.Proposal) []byte { return plainList(proposalParts(p)...) }
func plainCommit(c api.Commit) []byte     { return plainList(commitParts(c)...) }

// within: a number may be written.
func within(n int) bool { return n >= 0 && n <= 2147483647 }

func plainRight(b api.Block) bool {
	return b.Height != 0 && within(b.Proposer) && within(b.Round) && len(b.Txs) <= 64 && len(plainBlock(b)) <= 24576
}

func plainHash(b api.Block) api.Hash {
	if !plainRight(b) {
		return api.Hash{}
	}
	return keccak.Sum(plainBlock(b))
}

// Encode's errors.

func blockError(b api.Block) api.Errno {
	if !plainRight(b) {
		return api.ErrBlock
	}
	return api.OK
}

func voteError(v api.Vote) api.Errno {
	if !within(v.Kind) || !within(v.Round) || !within(v.By) {
		return api.ErrVote
	}
	return api.OK
}

func proposalError(p api.Proposal) api.Errno {
	if !within(p.Round) || !within(p.By) || p.Valid < -1 || p.Valid > 2147483647 {
		return api.ErrVote
	}
	return blockError(p.Block)
}

func commitError(c api.Commit) api.Errno {
	if !within(c.Round) {
		return api.ErrVote
	}
	for _, v := range c.Votes {
		if voteError(v) != api.OK {
			return api.ErrVote
		}
	}
	if len(plainCommit(c)) > 65536 {
		return api.ErrBig
	}
	return api.OK
}

// Decode: is an item what its letter says: n a number, i one that is at most 2^31 - 1, v one more, h a hash, s a signature, t a list of bytes, b a block, l a list of votes?
func fits(x rlp.Item, letter rune) bool {
	n := new(big.Int).SetBytes(x.Bytes)
	number := !x.List && len(x.Bytes) <= 8 && (len(x.Bytes) == 0 || x.Bytes[0] != 0)
	all := func(of func(y rlp.Item) bool) bool {
		return x.List && !slices.ContainsFunc(x.Items, func(y rlp.Item) bool { return !of(y) })
	}
	switch letter {
	case 'n':
		return number
	case 'i':
		return number && n.Cmp(big.NewInt(2147483647)) <= 0
	case 'v':
		return number && n.Cmp(big.NewInt(2147483648)) <= 0
	case 'h':
		return !x.List && len(x.Bytes) == 32
	case 's':
		return !x.List && len(x.Bytes) == 64
	case 't':
		return all(func(y rlp.Item) bool { return !y.List })
	case 'b':
		return shaped(x, "nhhnnt")
	case 'l':
		return all(func(y rlp.Item) bool { return shaped(y, "inihis") })
	}
	panic(letter)
}

func shaped(x rlp.Item, shape string) bool {
	if !x.List || len(x.Items) != len(shape) {
		return false
	}
	for i, letter := range shape {
		if !fits(x.Items[i], letter) {
			return false
		}
	}
	return true
}

func uintOf(x rlp.Item) uint64 { return new(big.Int).SetBytes(x.Bytes).Uint64() }

// intOf: -1, if it is far beyond all limits.
func intOf(x rlp.Item) int {
	n := new(big.Int).SetBytes(x.Bytes)
	if n.BitLen() > 40 {
		return -1
	}
	return int(n.Int64())
}

func blockOf(x rlp.Item) api.Block {
	l := x.Items
	b := api.Block{Height: uintOf(l[0]), Prev: api.Hash(l[1].Bytes), State: api.Hash(l[2].Bytes), Proposer: intOf(l[3]), Round: intOf(l[4])}
	for _, y := range l[5].Items {
		b.Txs = append(b.Txs, y.Bytes)
	}
	return b
}

func voteOf(x rlp.Item) api.Vote {
	l := x.Items
	return api.Vote{Kind: intOf(l[0]), Height: uintOf(l[1]), Round: intOf(l[2]), Block: api.Hash(l[3].Bytes), By: intOf(l[4]), Sig: api.Sig(l[5].Bytes)}
}

func proposalOf(x rlp.Item) api.Proposal {
	l := x.Items
	return api.Proposal{Height: uintOf(l[0]), Round: intOf(l[1]), Valid: intOf(l[2]) - 1, Block: blockOf(l[3]), By: intOf(l[4]), Sig: api.Sig(l[5].Bytes)}
}

func commitOf(x rlp.Item) api.Commit {
	l := x.Items
	c := api.Commit{Height: uintOf(l[0]), Round: intOf(l[1]), Block: api.Hash(l[2].Bytes)}
	for _, y := range l[3].Items {
		c.Votes = append(c.Votes, voteOf(y))
	}
	return c
}

// plainDecode: over rlp's items, by a shape.
func plainDecode[T any](b []byte, shape string, of func(x rlp.Item) T, wrong func(x T) api.Errno) (none T, err api.Errno) {
	x, err := rlp.Decode(b)
	if err != api.OK {
		return none, err
	}
	if !shaped(x, shape) {
		return none, api.ErrRlp
	}
	y := of(x)
	if err := wrong(y); err != api.OK {
		return none, err
	}
	return y, api.OK
}

// What is signed.

func plainVoteText(chain uint64, v api.Vote) []byte {
	return plainList(plainStr([]byte("conclave vote")), plainNum(chain), plainInt(v.Kind), plainNum(v.Height), plainInt(v.Round), plainStr(v.Block[:]))
}

func plainProposalText(chain uint64, p api.Proposal) []byte {
	h := plainHash(p.Block)
	return plainList(plainStr([]byte("conclave proposal")), plainNum(chain), plainNum(p.Height), plainInt(p.Round), plainSum(p.Valid), plainStr(h[:]))
}

func plainKey(seed []byte) api.Key {
	return api.Key(ed25519.NewKeyFromSeed(seed).Public().(ed25519.PublicKey))
}

func plainSig(seed, text []byte) api.Sig {
	return api.Sig(ed25519.Sign(ed25519.NewKeyFromSeed(seed), text))
}

// plainHolds: by the library, which has other words of keys that are no points; tests hand it none.
func plainHolds(k api.Key, text []byte, s api.Sig) bool { return ed25519.Verify(k[:], text, s[:]) }

// Checks.

func plainGenesis(g api.Genesis) bool {
	right := len(g.Keys) >= 1 && len(g.Keys) <= 16 && len(g.Allocs) <= 64
	for i, k := range g.Keys {
		right = right && !slices.Contains(g.Keys[:i], k)
	}
	for i, a := range g.Allocs {
		right = right && len(a.Code) <= 24576
		right = right && !slices.ContainsFunc(g.Allocs[:i], func(b api.Alloc) bool { return b.Addr == a.Addr })
	}
	return right
}

func plainQuorum(n int) int {
	for q := 0; ; q++ {
		if 3*q > 2*n {
			return q
		}
	}
}

func plainProposer(height uint64, round, n int) int {
	sum := new(big.Int).Add(new(big.Int).SetUint64(height), big.NewInt(int64(round)))
	return int(sum.Mod(sum, big.NewInt(int64(n))).Int64())
}

func plainCheckVote(g api.Genesis, v api.Vote) api.Errno {
	if !plainGenesis(g) {
		return api.ErrArg
	}
	if v.Kind != 1 && v.Kind != 2 || v.Height == 0 || !within(v.Round) || v.By < 0 || v.By >= len(g.Keys) {
		return api.ErrVote
	}
	if !plainHolds(g.Keys[v.By], plainVoteText(g.Chain, v), v.Sig) {
		return api.ErrSig
	}
	return api.OK
}

func plainCheckProposal(g api.Genesis, p api.Proposal) api.Errno {
	if !plainGenesis(g) {
		return api.ErrArg
	}
	if p.Height == 0 || !within(p.Round) || p.By < 0 || p.By >= len(g.Keys) ||
		p.Valid < -1 || p.Valid >= p.Round || p.By != plainProposer(p.Height, p.Round, len(g.Keys)) || p.Block.Height != p.Height {
		return api.ErrVote
	}
	if !plainRight(p.Block) {
		return api.ErrBlock
	}
	if !plainHolds(g.Keys[p.By], plainProposalText(g.Chain, p), p.Sig) {
		return api.ErrSig
	}
	return api.OK
}

func plainCheckCommit(g api.Genesis, c api.Commit) api.Errno {
	if !plainGenesis(g) {
		return api.ErrArg
	}
	if c.Block == (api.Hash{}) || len(c.Votes) < plainQuorum(len(g.Keys)) {
		return api.ErrCommit
	}
	for i, v := range c.Votes {
		if i > 0 && c.Votes[i-1].By >= v.By || v.Kind != 2 || v.Height != c.Height || v.Round != c.Round || v.Block != c.Block || plainCheckVote(g, v) != api.OK {
			return api.ErrCommit
		}
	}
	return api.OK
}
