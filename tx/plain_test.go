package tx_test

import (
	"crypto/ed25519"
	"math/big"
	"slices"

	"conclave/api"
	"conclave/evm"
	"conclave/keccak"
	"conclave/rlp"
	"conclave/state"
	"conclave/word"
)

// The chapter's words said over again: encodings are put together byte by byte, the library signs, and numbers have no end.

func bigOf(w api.Word) *big.Int { return new(big.Int).SetBytes(word.Bytes(w)) }
func bigNum(n uint64) *big.Int  { return new(big.Int).SetUint64(n) }

// wordOfBig: modulo 2^256.
func wordOfBig(n *big.Int) api.Word {
	b := new(big.Int).Mod(n, new(big.Int).Lsh(big.NewInt(1), 256)).Bytes()
	w, err := word.Read(b)
	if err != api.OK {
		panic(err)
	}
	return w
}

func plainHead(low, high byte, n int) []byte {
	if n <= 55 {
		return []byte{low + byte(n)}
	}
	b := big.NewInt(int64(n)).Bytes()
	return append([]byte{high + byte(len(b))}, b...)
}

func plainStr(b []byte) []byte {
	if len(b) == 1 && b[0] < 0x80 {
		return slices.Clone(b)
	}
	return slices.Concat(plainHead(0x80, 0xb7, len(b)), b)
}

func plainNum(n uint64) []byte { return plainStr(bigNum(n).Bytes()) }

func plainList(parts ...[]byte) []byte {
	body := slices.Concat(parts...)
	return slices.Concat(plainHead(0xc0, 0xf7, len(body)), body)
}

// plainItems: the encodings of a transaction's items.
func plainItems(t api.Tx) [][]byte {
	to := t.To[:]
	if t.Create {
		to = nil
	}
	return [][]byte{plainNum(t.Nonce), plainNum(t.Price), plainNum(t.Gas), plainStr(to), plainStr(bigOf(t.Value).Bytes()), plainStr(t.Data), plainStr(t.From[:])}
}

// plainParts: the same, and Sig.
func plainParts(t api.Tx) [][]byte { return append(plainItems(t), plainStr(t.Sig[:])) }

// plainEncode: whatever Data has.
func plainEncode(t api.Tx) []byte { return plainList(plainParts(t)...) }

// plainText: what is signed, whatever Data has.
func plainText(chain uint64, t api.Tx) []byte {
	return plainList(append([][]byte{plainStr([]byte("conclave tx")), plainNum(chain)}, plainItems(t)...)...)
}

// plainDecode: over rlp's items.
func plainDecode(b []byte) (api.Tx, api.Errno) {
	x, err := rlp.Decode(b)
	if err != api.OK {
		return api.Tx{}, err
	}
	if !x.List || len(x.Items) != 8 {
		return api.Tx{}, api.ErrRlp
	}
	for i, y := range x.Items {
		n := len(y.Bytes)
		nought := n > 0 && y.Bytes[0] == 0
		if y.List ||
			i <= 2 && (n > 8 || nought) ||
			i == 3 && n != 0 && n != 20 ||
			i == 4 && (n > 32 || nought) ||
			i == 6 && n != 32 ||
			i == 7 && n != 64 {
			return api.Tx{}, api.ErrRlp
		}
	}
	item := func(i int) []byte { return x.Items[i].Bytes }
	if len(item(5)) > 8192 {
		return api.Tx{}, api.ErrBig
	}
	number := func(i int) uint64 { return new(big.Int).SetBytes(item(i)).Uint64() }
	t := api.Tx{Nonce: number(0), Price: number(1), Gas: number(2), Create: len(item(3)) == 0, Data: item(5), From: api.Key(item(6)), Sig: api.Sig(item(7))}
	copy(t.To[:], item(3))
	t.Value = wordOfBig(new(big.Int).SetBytes(item(4)))
	return t, api.OK
}

func plainSender(k api.Key) (a api.Addr) {
	h := keccak.Sum(k[:])
	copy(a[:], h[12:])
	return a
}

// plainSign: by the library, whatever Data has.
func plainSign(chain uint64, seed []byte, t api.Tx) api.Tx {
	k := ed25519.NewKeyFromSeed(seed)
	t.From = api.Key(k.Public().(ed25519.PublicKey))
	t.Sig = api.Sig(ed25519.Sign(k, plainText(chain, t)))
	return t
}

func plainIntrinsic(t api.Tx) uint64 {
	cost := uint64(21000)
	for _, b := range t.Data {
		if b == 0 {
			cost += 4
		} else {
			cost += 16
		}
	}
	if t.Create {
		cost += 32000 + 2*((uint64(len(t.Data))+31)/32)
	}
	return cost
}

func plainCheck(chain uint64, t api.Tx) api.Errno {
	switch {
	case len(t.Data) > 8192:
		return api.ErrBig
	case t.Gas < plainIntrinsic(t), t.Gas > 2000000:
		return api.ErrFee
	case !ed25519.Verify(t.From[:], plainText(chain, t), t.Sig[:]):
		return api.ErrSig
	}
	return api.OK
}

// plainWhy: why a transaction is skipped.
func plainWhy(s *state.State, env evm.Env, t api.Tx, room uint64) api.Errno {
	if s == nil {
		return api.ErrNil
	}
	if err := plainCheck(env.Chain, t); err != api.OK {
		return err
	}
	from := plainSender(t.From)
	needed := new(big.Int).Mul(bigNum(t.Gas), bigNum(t.Price))
	needed.Add(needed, bigOf(t.Value))
	switch {
	case t.Gas > room:
		return api.ErrFee
	case t.Nonce != s.Nonce(from), t.Nonce == 1<<64-1:
		return api.ErrNonce
	case bigOf(s.Balance(from)).Cmp(needed) < 0:
		return api.ErrFunds
	}
	return api.OK
}

// plainAdd: Price times gas to an account, or from it.
func plainAdd(s *state.State, a api.Addr, sign int64, gas, price uint64) {
	n := new(big.Int).Mul(bigNum(gas), bigNum(price))
	n.Mul(n, big.NewInt(sign))
	s.SetBalance(a, wordOfBig(n.Add(n, bigOf(s.Balance(a)))))
}

// plainApply: on a state that tells all.
func plainApply(s *state.State, env evm.Env, t api.Tx, room uint64) api.Receipt {
	if err := plainWhy(s, env, t, room); err != api.OK {
		return api.Receipt{Skipped: true, Err: err}
	}
	from := plainSender(t.From)
	s.Begin()
	s.Warm(from)
	if !t.Create {
		s.Warm(t.To)
		s.SetNonce(from, t.Nonce+1)
	}
	s.Warm(env.Proposer)
	plainAdd(s, from, -1, t.Gas, t.Price)
	around := evm.Env{Chain: env.Chain, Height: env.Height, Time: env.Time, Proposer: env.Proposer, Origin: from, Price: t.Price}
	out := evm.Call(s, around, evm.Msg{Caller: from, To: t.To, Create: t.Create, Value: t.Value, Data: slices.Clone(t.Data), Gas: t.Gas - plainIntrinsic(t)})
	used := t.Gas - out.Left
	used -= plainRefund(used, s.Refund())
	plainAdd(s, from, 1, t.Gas-used, t.Price)
	plainAdd(s, env.Proposer, 1, used, t.Price)
	r := api.Receipt{Err: out.Err, Used: used, Made: out.Made, Out: out.Data}
	if out.Err == api.OK {
		r.Logs = s.Logs()
	}
	return r
}

func plainRefund(used uint64, sum int64) uint64 {
	if sum <= 0 {
		return 0
	}
	return min(uint64(sum), used/5)
}

func plainBlock(s *state.State, env evm.Env, txs [][]byte) []api.Receipt {
	var out []api.Receipt
	used := uint64(0)
	for _, b := range txs {
		t, err := plainDecode(b)
		r := api.Receipt{Skipped: true, Err: err}
		if err == api.OK {
			r = plainApply(s, env, t, 2000000-used)
		}
		used += r.Used
		out = append(out, r)
	}
	return out
}
