package node_test

import (
	"bytes"
	"fmt"
	"slices"
	"testing"

	"conclave/api"
	"conclave/chain"
	"conclave/disk"
	"conclave/node"
	"conclave/rlp"
	"conclave/tx"
	"conclave/word"
)

// submits: the answer of Submit; where it is an error, nothing is sent and the pool stays.
func submits(t *testing.T, what string, n *node.Node, b []byte, want api.Errno) {
	t.Helper()
	was := len(n.Pool())
	a, err := n.Submit(b)
	if err != want || err != api.OK && !nothing(a) {
		t.Errorf("%s: %d, not %d: %s", what, err, want, told(a))
	}
	if err == api.OK {
		was++
	}
	if now := len(n.Pool()); now != was {
		t.Errorf("%s: a pool of %d, not %d", what, now, was)
	}
}

// spoilt: a transaction whose signature does not hold.
func spoilt(b []byte) []byte {
	x, _ := tx.Decode(b)
	x.Sig[3] ^= 1
	b, _ = tx.Encode(x)
	return b
}

// Each error of Submit, in its order. (P1903)
func TestSubmit(t *testing.T) {
	n, _ := alone(t)
	for i := range uint64(3) {
		submits(t, "ahead", n, pay(0, i, 1, 1), api.OK)
	}
	grow(t, n)
	if len(n.Pool()) != 0 || n.State().Nonce(addrOf(sender(0))) != 3 {
		t.Fatal("not carried out")
	}
	submits(t, "none", n, nil, api.ErrEnd)
	submits(t, "no transaction", n, []byte{1}, api.ErrRlp)
	submits(t, "a byte more", n, append(pay(0, 3, 1, 1), 0), api.ErrRlp)
	big := signed(5, api.Tx{Gas: 100000, Data: make([]byte, api.MaxData)})
	submits(t, "as many data as there may be", n, big, api.OK)
	item, _ := rlp.Decode(big)
	item.Items[5].Bytes = append(item.Items[5].Bytes, 0)
	big, _ = rlp.Encode(item)
	submits(t, "a byte more of data", n, big, api.ErrBig)
	submits(t, "no gas", n, signed(0, api.Tx{Gas: 20999, Nonce: 3}), api.ErrFee)
	submits(t, "more gas than a block has", n, signed(0, api.Tx{Gas: api.BlockGas + 1, Nonce: 3}), api.ErrFee)
	submits(t, "no gas, a signature that does not hold, an old nonce", n, spoilt(signed(0, api.Tx{Gas: 1})), api.ErrFee)
	submits(t, "a signature that does not hold, an old nonce", n, spoilt(pay(0, 1, 1, 1)), api.ErrSig)
	x, _ := tx.Sign(chainNo+1, sender(0), api.Tx{Nonce: 3, Gas: 21000})
	other, _ := tx.Encode(x)
	submits(t, "of another chain", n, other, api.ErrSig)
	submits(t, "an old nonce", n, pay(0, 2, 1, 1), api.ErrNonce)
	submits(t, "what stands in a block", n, pay(0, 0, 1, 1), api.ErrNonce)
	submits(t, "the nonce that is next", n, pay(0, 3, 1, 1), api.OK)
	submits(t, "the same", n, pay(0, 3, 1, 1), api.ErrExists)
	submits(t, "another one of that nonce", n, pay(0, 3, 1, 2), api.OK)
	submits(t, "a nonce above", n, pay(0, 9, 1, 1), api.OK)
	submits(t, "of one who has nothing", n, signed(50, api.Tx{Gas: 21000, Value: word.Of(9)}), api.OK)
	submits(t, "more than there is", n, signed(1, api.Tx{Gas: 21000, Value: word.Of(2 * rich)}), api.OK)
	for i := len(n.Pool()); i < api.MaxPool; i++ {
		submits(t, "the pool is filled", n, pay(2, uint64(i), 1, 1), api.OK)
	}
	submits(t, "the pool is full", n, pay(3, 0, 1, 1), api.ErrBig)
	submits(t, "full, and there", n, pay(0, 3, 1, 1), api.ErrExists)
	submits(t, "full, and old", n, pay(0, 2, 1, 1), api.ErrNonce)
	submits(t, "full, and no transaction", n, []byte{1}, api.ErrRlp)
	if len(n.Pool()) != api.MaxPool || n.Err() != api.OK {
		t.Error("pool")
	}
	grow(t, n)
	submits(t, "room again", n, pay(3, 0, 1, 1), api.OK)
}

// Behind a node that has halted. (P1903)
func TestSubmitHalted(t *testing.T) {
	n, d := alone(t)
	submitted(t, n, pay(0, 0, 1, 1))
	d.Arm([]disk.Fault{{At: 1, Kind: disk.IO}})
	n.Start()
	for _, b := range [][]byte{nil, pay(0, 0, 1, 1), pay(0, 1, 1, 1)} {
		submits(t, "halted", n, b, api.ErrHalt)
	}
}

// Behind each block those that stand in it, or have a nonce below their sender's, are gone; all others stay, in order. (P1903)
func TestPoolBehindBlock(t *testing.T) {
	n := of4(t, 0)
	stands, same, above := pay(0, 0, 1, 1), pay(0, 0, 1, 2), pay(0, 1, 1, 1)
	poor := signed(1, api.Tx{Gas: 21000, Value: word.Of(2 * rich)})
	stays := pay(2, 0, 1, 1)
	skippedOne := pay(3, 5, 1, 1) // whose nonce is not next
	for _, b := range [][]byte{stands, same, stays, poor, above, skippedOne} {
		submitted(t, n, b)
	}
	b := next(n, 4, 0, pay(4, 0, 1, 1), stands, poor, skippedOne)
	if _, err := n.Apply(b, commitBy(b, 0, 0, 1, 2)); err != api.OK {
		t.Fatal(err)
	}
	if got := n.Pool(); !slices.EqualFunc(got, [][]byte{stays, above}, bytes.Equal) {
		t.Errorf("a pool of %d", len(got))
	}
	receipts := n.Receipts(1)
	if len(receipts) != 4 || receipts[0].Skipped || receipts[1].Skipped || !receipts[2].Skipped || receipts[3].Err != api.ErrNonce {
		t.Errorf("receipts %v", receipts)
	}
	submits(t, "one that stood in a block and was skipped", n, skippedOne, api.OK)
}

// chosen: the transactions that a validator alone has in its next block.
func chosen(t *testing.T, n *node.Node) [][]byte {
	t.Helper()
	grow(t, n)
	b, _, _ := n.At(n.Height())
	return b.Txs
}

// A proposal has transactions of the pool in order, at most MaxTxs. (P1902)
func TestProposalTxs(t *testing.T) {
	n, _ := alone(t)
	if len(chosen(t, n)) != 0 {
		t.Error("transactions of nothing")
	}
	var all [][]byte
	for i := range uint64(70) {
		all = append(all, pay(int(i%2), i/2, 1, 1))
		submitted(t, n, all[i])
	}
	if got := chosen(t, n); !slices.EqualFunc(got, all[:api.MaxTxs], bytes.Equal) {
		t.Errorf("%d transactions", len(got))
	}
	if got := n.Pool(); !slices.EqualFunc(got, all[api.MaxTxs:], bytes.Equal) {
		t.Errorf("a pool of %d", len(got))
	}
	if got := chosen(t, n); !slices.EqualFunc(got, all[api.MaxTxs:], bytes.Equal) {
		t.Errorf("then %d transactions", len(got))
	}
	// In the order of the pool, not of nonces.
	turned := [][]byte{pay(0, 36, 1, 1), pay(0, 35, 1, 1)}
	for _, b := range turned {
		submitted(t, n, b)
	}
	if got := chosen(t, n); !slices.EqualFunc(got, turned, bytes.Equal) {
		t.Error("another order")
	}
	if l := n.Receipts(n.Height()); !l[0].Skipped || l[1].Skipped {
		t.Errorf("receipts %v", l)
	}
}

// sized: a transaction of just so many bytes.
func sized(t *testing.T, i int, nonce uint64, size int) []byte {
	t.Helper()
	data := max(size-300, 0)
	for range 5 { // some bytes more may take a byte more to tell how many they are
		b := long(i, nonce, data)
		if len(b) == size {
			return b
		}
		data += size - len(b)
	}
	t.Fatalf("no transaction of %d bytes", size)
	return nil
}

// A proposal has at most 20000 bytes of transactions; what does not fit is passed over. (P1902)
func TestProposalBytes(t *testing.T) {
	for _, c := range []struct {
		sizes  []int
		chosen []int // their places
	}{
		{[]int{8000, 8000, 4000}, []int{0, 1, 2}},
		{[]int{8000, 8000, 4001}, []int{0, 1}},
		{[]int{8000, 8000, 4001, 3999}, []int{0, 1, 3}},
		{[]int{8000, 8000, 4001, 4000, 300}, []int{0, 1, 3}},
		{[]int{8000, 8000, 8000, 8000, 3000, 800, 300}, []int{0, 1, 4, 5}},
		{[]int{300, 8000, 8000, 8000, 3700}, []int{0, 1, 2, 4}},
		{[]int{8192, 8192, 3616}, []int{0, 1, 2}},
	} {
		n, _ := alone(t)
		var all, want [][]byte
		size := 0
		for i, size := range c.sizes {
			all = append(all, sized(t, i, 0, size))
			submitted(t, n, all[i])
		}
		for _, i := range c.chosen {
			want = append(want, all[i])
			size += c.sizes[i]
		}
		if got := chosen(t, n); size > 20000 || !slices.EqualFunc(got, want, bytes.Equal) {
			t.Errorf("%v: %d of %d transactions", c, len(got), len(want))
		}
		if len(n.Pool()) != len(all)-len(want) {
			t.Errorf("%v: a pool of %d", c, len(n.Pool()))
		}
	}
}

// Each of the two bounds counts for those that are taken alone. (P1902)
func TestProposalBoth(t *testing.T) {
	n, _ := alone(t)
	var want [][]byte
	for i := range uint64(62) {
		want = append(want, pay(0, i, 1, 1))
	}
	want = append(want, sized(t, 4, 0, 6000))
	size := 0
	for _, b := range want {
		submitted(t, n, b)
		size += len(b)
	}
	submitted(t, n, sized(t, 1, 0, 20001-size))
	last := sized(t, 2, 0, 20000-size)
	submitted(t, n, last)
	submitted(t, n, pay(3, 0, 1, 1))
	if got := chosen(t, n); len(got) != 64 || !bytes.Equal(got[63], last) {
		t.Errorf("%d transactions", len(got))
	}
	if got := n.Pool(); len(got) != 2 {
		t.Errorf("a pool of %d", len(got))
	}
}

// A payment moves what it says, and its fee goes to the proposer's address. (P1902, P1906)
func TestCarriedOut(t *testing.T) {
	n := of4(t, 0)
	b := next(n, 4, 2, pay(0, 0, 1, 9), signed(1, api.Tx{Price: 2, Gas: 100000, To: address(counter)}))
	if b.Proposer != 3 {
		t.Fatal("proposer")
	}
	n.Apply(b, commitBy(b, 5, 1, 2, 3))
	s := n.State()
	l := n.Receipts(1)
	if len(l) != 2 || l[0].Used != 21000 || l[1].Used <= 21000 || len(l[1].Logs) != 1 {
		t.Fatalf("receipts %v", l)
	}
	fees := 21000 + 2*l[1].Used
	if s.Balance(address(1)) != word.Of(9) || s.Balance(addrOf(sender(0))) != word.Of(rich-9-21000) || s.Balance(addrOf(seed(3))) != word.Of(fees) || s.Slot(address(counter), word.Of(0)) != word.Of(1) {
		t.Error("balances")
	}
	if _, c, _ := n.At(1); c.Round != 5 || b.Round != 2 {
		t.Error("rounds")
	}
	// What code asks of its block: its height, as the time too, the chain, the price of nothing around it, the proposer.
	asks := []byte{0x43, 0x60, 0, 0x52, 0x42, 0x60, 32, 0x52, 0x46, 0x60, 64, 0x52, 0x41, 0x60, 96, 0x52, 0x3a, 0x60, 128, 0x52, 0x32, 0x60, 160, 0x52, 0x60, 192, 0x60, 0, 0xf3}
	made := signed(2, api.Tx{Price: 3, Gas: 200000, Create: true, Data: append(initOf(len(asks)), asks...)})
	b = next(n, 4, 0, made)
	n.Apply(b, commitBy(b, 0, 0, 1, 2))
	l = n.Receipts(2)
	if len(l) != 1 || l[0].Err != api.OK {
		t.Fatalf("receipts %v", l)
	}
	b = next(n, 4, 1, signed(2, api.Tx{Nonce: 1, Price: 3, Gas: 200000, To: l[0].Made}))
	n.Apply(b, commitBy(b, 1, 0, 1, 2))
	proposer := addrOf(seed(chain.Proposer(3, 1, 4)))
	origin := addrOf(sender(2))
	want := bytes.Join([][]byte{
		word.Bytes(word.Of(3)), word.Bytes(word.Of(3)), word.Bytes(word.Of(chainNo)),
		append(make([]byte, 12), proposer[:]...), word.Bytes(word.Of(3)), append(make([]byte, 12), origin[:]...),
	}, nil)
	if l := n.Receipts(3); len(l) != 1 || !bytes.Equal(l[0].Out, want) {
		t.Errorf("asked: %x, not %x", fmt.Sprint(l), want)
	}
}

// initOf: code that gives the n bytes behind it.
func initOf(n int) []byte {
	return []byte{0x60, byte(n), 0x60, 12, 0x60, 0, 0x39, 0x60, byte(n), 0x60, 0, 0xf3}
}
