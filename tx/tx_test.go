package tx_test

import (
	"bytes"
	"encoding/hex"
	"fmt"
	"math"
	"math/rand/v2"
	"slices"
	"strings"
	"testing"

	"conclave/api"
	"conclave/keccak"
	"conclave/rlp"
	"conclave/tx"
	"conclave/word"
)

// is: as it should be.
func is(t *testing.T, what string, got, want any) {
	t.Helper()
	if got, want := fmt.Sprint(got), fmt.Sprint(want); got != want {
		t.Errorf("%s: %.400s, not %.400s", what, got, want)
	}
}

func unhex(s string) []byte {
	b, err := hex.DecodeString(strings.ReplaceAll(s, " ", ""))
	if err != nil {
		panic(err)
	}
	return b
}

func num(n uint64) api.Word { return api.Word{n} }

// neg: 0 less n.
func neg(n uint64) api.Word { return word.Sub(api.Word{}, num(n)) }

func top() api.Word { return neg(1) }

// pow: 2 to the n.
func pow(n uint64) api.Word { return word.Shl(num(n), num(1)) }

// addr: an address with something in all its parts.
func addr(c byte) api.Addr { return api.Addr{0: ^c, 4: 0x80, 11: 1, 12: 2, 19: c} }

// seed: of a key.
func seed(c byte) []byte { return bytes.Repeat([]byte{c}, 32) }

// data: n bytes, of all values, some of them 0.
func data(n int) []byte {
	out := make([]byte, n)
	for i := range out {
		out[i] = byte(i*7 + i/256)
	}
	return out
}

// numbers: of 64 bits, at the edges of their encodings.
func numbers() []uint64 {
	return []uint64{0, 1, 127, 128, 255, 256, 65535, 65536, 1<<56 - 1, 1 << 56, 1<<63 - 1, 1 << 63, math.MaxUint64 - 1, math.MaxUint64}
}

// values: of 256 bits, at the edges of their encodings.
func values() []api.Word {
	return []api.Word{num(0), num(1), num(127), num(128), num(255), num(256), num(math.MaxUint64), pow(64), word.Sub(pow(248), num(1)), pow(248), pow(255), neg(2), top()}
}

// sizes: of data, at the edges of their encodings and at the limit.
func sizes() []int {
	return []int{0, 1, 2, 31, 32, 33, 54, 55, 56, 57, 255, 256, 257, 8190, 8191, 8192}
}

// some: a transaction with something in all its items.
func some() api.Tx {
	t := api.Tx{Nonce: 300, Price: 9, Gas: 70000, To: addr(3), Value: num(1000), Data: []byte("dog")}
	copy(t.From[:], data(32))
	copy(t.Sig[:], data(64))
	return t
}

// change: a copy of a transaction with something else in it.
func change(t api.Tx, f func(t *api.Tx)) api.Tx {
	f(&t)
	return t
}

// varied: transactions with one item after the other at its edges, those that create too.
func varied() []api.Tx {
	var out []api.Tx
	add := func(f func(t *api.Tx)) {
		out = append(out, change(some(), f), change(some(), func(t *api.Tx) { f(t); t.Create = true }))
	}
	for _, n := range numbers() {
		add(func(t *api.Tx) { t.Nonce = n })
		add(func(t *api.Tx) { t.Price = n })
		add(func(t *api.Tx) { t.Gas = n })
		add(func(t *api.Tx) { t.Nonce, t.Price, t.Gas = n, n, n })
	}
	for _, w := range values() {
		add(func(t *api.Tx) { t.Value = w })
	}
	for _, n := range sizes() {
		add(func(t *api.Tx) { t.Data = data(n) })
		add(func(t *api.Tx) { t.Data = bytes.Repeat([]byte{0x80}, n) })
	}
	add(func(t *api.Tx) { t.Data = nil })
	add(func(t *api.Tx) { t.To = api.Addr{} })
	add(func(t *api.Tx) { t.From = api.Key{} })
	add(func(t *api.Tx) { t.Sig = api.Sig{} })
	add(func(t *api.Tx) { *t = api.Tx{} })
	return out
}

// seen: a transaction as a text, in which nil and empty are one; To of one that creates is passed over.
func seen(t api.Tx) string {
	if t.Create {
		t.To = api.Addr{}
	}
	return fmt.Sprintf("%d %d %d %v %x %v %x %x %x", t.Nonce, t.Price, t.Gas, t.Create, t.To, t.Value, t.Data, t.From, t.Sig)
}

// P1401: the chapter's example, and other keys.
func TestSender(t *testing.T) {
	is(t, "Sender of noughts", fmt.Sprintf("%x", tx.Sender(api.Key{})), "88386fc84ba6bc95484008f6362f93160ef3e563")
	met := map[api.Addr]bool{}
	for i := range 32 {
		for _, c := range []byte{1, 128, 255} {
			k := api.Key{}
			k[i] = c
			h := keccak.Sum(k[:])
			is(t, fmt.Sprintf("Sender of %x", k), tx.Sender(k), api.Addr(h[12:32]))
			met[tx.Sender(k)] = true
		}
	}
	is(t, "senders of so many keys", len(met), 96)
}

// P1401: encodings written out.
func TestEncodeByHand(t *testing.T) {
	from, sig := strings.Repeat("11", 32), strings.Repeat("22", 64)
	to := strings.Repeat("33", 20)
	x := api.Tx{Nonce: 1, Price: 0, Gas: 21000, To: api.Addr(unhex(to)), Value: num(128), Data: []byte("dog"), From: api.Key(unhex(from)), Sig: api.Sig(unhex(sig))}
	rows := []struct {
		what string
		t    api.Tx
		enc  string
	}{
		{"a call", x, "f883 01 80 825208 94" + to + " 8180 83646f67 a0" + from + " b840" + sig},
		{"a creation", change(x, func(t *api.Tx) { t.Create = true }), "f86f 01 80 825208 80 8180 83646f67 a0" + from + " b840" + sig},
		{"nothing", api.Tx{}, "f87d 80 80 80 94" + strings.Repeat("00", 20) + " 80 80 a0" + strings.Repeat("00", 32) + " b840" + strings.Repeat("00", 64)},
		{"great numbers", api.Tx{Nonce: math.MaxUint64, Price: 127, Gas: 128, Create: true, Value: top(), Data: []byte{0}, From: x.From, Sig: x.Sig},
			"f892 88ffffffffffffffff 7f 8180 80 a0" + strings.Repeat("ff", 32) + " 00 a0" + from + " b840" + sig},
	}
	for _, r := range rows {
		b, err := tx.Encode(r.t)
		is(t, r.what, fmt.Sprintf("%x %d", b, int(err)), strings.ReplaceAll(r.enc, " ", "")+" 0")
		y, err := tx.Decode(unhex(r.enc))
		is(t, r.what+" again", fmt.Sprint(seen(y), int(err)), fmt.Sprint(seen(r.t), 0))
	}
}

// P1401: there and back, each item at its edges; of one that creates To is passed over, and is zero again.
func TestThereAndBack(t *testing.T) {
	for _, x := range varied() {
		b, err := tx.Encode(x)
		is(t, "Encode of "+seen(x), fmt.Sprintf("%x %d", b, int(err)), fmt.Sprintf("%x 0", plainEncode(x)))
		y, err := tx.Decode(plainEncode(x))
		is(t, "Decode of "+seen(x), fmt.Sprint(seen(y), int(err)), fmt.Sprint(seen(x), 0))
		if y.Create && y.To != (api.Addr{}) {
			t.Errorf("To of one that creates: %x", y.To)
		}
	}
	x, y := some(), some()
	x.Create, y.Create, y.To = true, true, addr(77)
	a, _ := tx.Encode(x)
	b, _ := tx.Encode(y)
	is(t, "Encode with another To", fmt.Sprintf("%x", b), fmt.Sprintf("%x", a))
}

// P1401: data of MaxData bytes and of more.
func TestTooBig(t *testing.T) {
	for _, n := range []int{8192, 8193, 8194, 10000, 65300} {
		for _, create := range []bool{false, true} {
			x := change(some(), func(t *api.Tx) { t.Data, t.Create = data(n), create })
			want := api.ErrBig
			if n == 8192 {
				want = api.OK
			}
			b, err := tx.Encode(x)
			is(t, fmt.Sprint("Encode of ", n), fmt.Sprint(int(err), len(b) == 0), fmt.Sprint(int(want), want != api.OK))
			y, err := tx.Decode(plainEncode(x))
			is(t, fmt.Sprint("Decode of ", n), fmt.Sprint(int(err), seen(y) == seen(api.Tx{})), fmt.Sprint(int(want), want != api.OK))
		}
	}
	b, err := tx.Encode(change(some(), func(t *api.Tx) { t.Data = data(1 << 20) }))
	is(t, "Encode of far too much", fmt.Sprint(int(err), len(b)), "3 0")
}

// refused: Decode tells the error, and nothing else.
func refused(t *testing.T, what string, b []byte, want api.Errno) {
	t.Helper()
	x, err := tx.Decode(b)
	is(t, "Decode of "+what, fmt.Sprint(int(err), seen(x) == seen(api.Tx{}), x.Create), fmt.Sprint(int(want), true, false))
}

// P1401: what is no item: rlp's error.
func TestDecodeNoItem(t *testing.T) {
	whole := plainEncode(some())
	refused(t, "nil", nil, api.ErrEnd)
	refused(t, "no bytes", []byte{}, api.ErrEnd)
	refused(t, "a byte below 80 with a head", unhex("8105"), api.ErrRlp)
	refused(t, "a head that is too long", unhex("b801ff"), api.ErrRlp)
	refused(t, "a list's head alone", unhex("c1"), api.ErrEnd)
	refused(t, "a byte behind it", append(slices.Clone(whole), 0), api.ErrRlp)
	refused(t, "it twice", slices.Concat(whole, whole), api.ErrRlp)
	refused(t, "far too much", make([]byte, 65537), api.ErrBig)
	for n := range whole {
		refused(t, fmt.Sprint("the first bytes: ", n), whole[:n], api.ErrEnd)
	}
	deep := unhex("c0")
	for range 16 {
		deep = plainList(deep)
	}
	refused(t, "lists that are too deep", deep, api.ErrBig)
	parts := plainParts(some())
	parts[5] = deep[1:]
	refused(t, "lists that are too deep in the place of data", plainList(parts...), api.ErrBig)
	parts[5] = deep[2:]
	refused(t, "lists that are not too deep in the place of data", plainList(parts...), api.ErrRlp)
}

// P1401: what is an item, but no list, or a list of another length.
func TestDecodeNoList(t *testing.T) {
	parts := plainParts(some())
	refused(t, "nothing", unhex("80"), api.ErrRlp)
	refused(t, "a byte", unhex("05"), api.ErrRlp)
	refused(t, "bytes", unhex("83646f67"), api.ErrRlp)
	refused(t, "its encoding as bytes", plainStr(plainEncode(some())), api.ErrRlp)
	refused(t, "it in a list", plainList(plainEncode(some())), api.ErrRlp)
	for n := range parts {
		refused(t, fmt.Sprint("items: ", n), plainList(parts[:n]...), api.ErrRlp)
		refused(t, fmt.Sprint("all items but ", n), plainList(slices.Delete(slices.Clone(parts), n, n+1)...), api.ErrRlp)
		refused(t, fmt.Sprint("one item twice: ", n), plainList(slices.Insert(slices.Clone(parts), n, parts[n])...), api.ErrRlp)
	}
	for _, more := range []string{"80", "05", "c0"} {
		refused(t, "one item more", plainList(append(slices.Clone(parts), unhex(more))...), api.ErrRlp)
	}
}

// with: the encoding of a transaction in which one item is another.
func with(i int, part []byte) []byte {
	parts := plainParts(some())
	parts[i] = part
	return plainList(parts...)
}

// P1401: each item as a list.
func TestDecodeListInPlace(t *testing.T) {
	parts := plainParts(some())
	for i := range parts {
		refused(t, fmt.Sprint("an empty list as item ", i), with(i, unhex("c0")), api.ErrRlp)
		refused(t, fmt.Sprint("a list of it as item ", i), with(i, plainList(parts[i])), api.ErrRlp)
	}
	for i, n := range map[int]int{3: 20, 6: 32, 7: 64} {
		refused(t, fmt.Sprint("a list of so many items as item ", i), with(i, plainList(make([]byte, n))), api.ErrRlp)
	}
}

// P1401: numbers at their lengths, and with a 0 ahead.
func TestDecodeNumbers(t *testing.T) {
	for i, most := range map[int]int{0: 8, 1: 8, 2: 8, 4: 32} {
		for n := 1; n <= 40; n++ {
			full := bytes.Repeat([]byte{0xff}, n)
			if n <= most {
				x, err := tx.Decode(with(i, plainStr(full)))
				got := []api.Word{0: num(x.Nonce), 1: num(x.Price), 2: num(x.Gas), 4: x.Value}[i]
				is(t, fmt.Sprint("item ", i, " of so many bytes: ", n), fmt.Sprint(int(err), fmt.Sprintf("%x", word.Short(got))), fmt.Sprint(0, fmt.Sprintf("%x", full)))
			} else {
				refused(t, fmt.Sprint("item ", i, " of so many bytes: ", n), with(i, plainStr(full)), api.ErrRlp)
			}
			full[0] = 0
			refused(t, fmt.Sprint("item ", i, " of so many bytes, one of them a 0 ahead: ", n), with(i, plainStr(full)), api.ErrRlp)
			refused(t, fmt.Sprint("item ", i, " of so many noughts: ", n), with(i, plainStr(make([]byte, n))), api.ErrRlp)
		}
	}
}

// P1401: To, From and Sig of other lengths.
func TestDecodeLengths(t *testing.T) {
	for i, right := range map[int][]int{3: {0, 20}, 6: {32}, 7: {64}} {
		for n := range 130 {
			b := with(i, plainStr(data(n)))
			if !slices.Contains(right, n) {
				refused(t, fmt.Sprint("item ", i, " of so many bytes: ", n), b, api.ErrRlp)
				continue
			}
			x, err := tx.Decode(b)
			got := [][]byte{3: x.To[:], 6: x.From[:], 7: x.Sig[:]}[i]
			is(t, fmt.Sprint("item ", i, " of so many bytes: ", n), fmt.Sprint(int(err), bytes.HasPrefix(got, data(n)), x.Create), fmt.Sprint(0, true, i == 3 && n == 0))
		}
	}
}

// P1401: which error comes first: rlp's, that of another list, that of data.
func TestDecodeOrder(t *testing.T) {
	big := func(t *api.Tx) { t.Data = data(8193) }
	x := change(some(), big)
	parts := plainParts(x)
	refused(t, "too big", plainEncode(x), api.ErrBig)
	refused(t, "too big, and cut off", plainEncode(x)[:8300], api.ErrEnd)
	refused(t, "too big, with something behind", append(plainEncode(x), 5), api.ErrRlp)
	for i := range parts {
		p := slices.Clone(parts)
		if i == 5 {
			continue
		}
		p[i] = unhex("c0")
		refused(t, fmt.Sprint("too big, with a list as item ", i), plainList(p...), api.ErrRlp)
		p[i] = plainStr(make([]byte, 65))
		refused(t, fmt.Sprint("too big, with a longer item ", i), plainList(p...), api.ErrRlp)
		refused(t, fmt.Sprint("too big, without item ", i), plainList(slices.Delete(p, i, i+1)...), api.ErrRlp)
	}
	refused(t, "too big, one item more", plainList(append(slices.Clone(parts), unhex("80"))...), api.ErrRlp)
	refused(t, "an item that is none behind one that is wrong", with(7, unhex("8105")), api.ErrRlp)
	refused(t, "a wrong item ahead of an end that is none", with(0, unhex("00"))[:100], api.ErrEnd)
	refused(t, "far too big", with(5, plainStr(data(65400))), api.ErrBig)
	refused(t, "far too big, and wrong", append([]byte{0x81, 5}, with(5, plainStr(data(65400)))...), api.ErrBig)
}

// P1401: drawn bytes and lists, against the words said over again; what can be read is written so again.
func TestDecodeDrawn(t *testing.T) {
	r := rand.New(rand.NewPCG(14, 1))
	met := map[api.Errno]int{}
	for range 20000 {
		b := drawnBytes(r)
		x, err := tx.Decode(b)
		y, want := plainDecode(b)
		if err != want || seen(x) != seen(y) {
			t.Fatalf("Decode of %x: %s, %d, not %s, %d", b, seen(x), int(err), seen(y), int(want))
		}
		met[err]++
		if again, no := tx.Encode(x); err == api.OK && (no != api.OK || !bytes.Equal(again, b)) {
			t.Fatalf("Encode of Decode: %x, %d, not %x", again, int(no), b)
		}
	}
	for _, err := range []api.Errno{api.OK, api.ErrRlp, api.ErrEnd, api.ErrBig} {
		if met[err] < 100 {
			t.Errorf("just %d times: %d", met[err], int(err))
		}
	}
}

// drawnBytes: of a transaction with an item or two that are drawn, now and then with a byte that is changed.
func drawnBytes(r *rand.Rand) []byte {
	parts := plainParts(some())
	for range r.IntN(3) {
		b := data(r.IntN(1 + []int{2, 10, 34, 66}[r.IntN(4)]))
		if r.IntN(2) == 0 && len(b) > 0 {
			b[0] = byte(r.Uint32())
		}
		i := r.IntN(8)
		if r.IntN(3) == 0 { // of the right length
			b = slices.Repeat([]byte{byte(r.Uint32())}, []int{1, 1, 1, 20, 1, 1, 32, 64}[i])
		}
		parts[i] = plainStr(b)
		if r.IntN(8) == 0 {
			parts[i] = plainList(parts[i])
		}
	}
	switch r.IntN(20) {
	case 0:
		parts[5] = plainStr(data(8190 + r.IntN(6)))
	case 1:
		parts = slices.Delete(parts, 7, 8)
	case 2:
		parts = append(parts, plainNum(r.Uint64N(3)))
	}
	b := plainList(parts...)
	switch r.IntN(8) {
	case 0:
		b[r.IntN(len(b))] = byte(r.Uint32())
	case 1:
		b = b[:r.IntN(len(b)+1)]
	}
	return b
}

// P1401: what is signed, written out: chains 0, 7 and 2^64 - 1, one that creates.
func TestBytesByHand(t *testing.T) {
	to, from := strings.Repeat("33", 20), strings.Repeat("11", 32)
	x := api.Tx{Nonce: 1, Price: 2, Gas: 21000, To: api.Addr(unhex(to)), Value: num(0), Data: []byte{5}, From: api.Key(unhex(from))}
	label := "8b636f6e636c617665207478"
	rows := []struct {
		chain uint64
		t     api.Tx
		enc   string
	}{
		{7, x, "f84a" + label + "07 01 02 825208 94" + to + " 80 05 a0" + from},
		{0, x, "f84a" + label + "80 01 02 825208 94" + to + " 80 05 a0" + from},
		{math.MaxUint64, x, "f852" + label + "88ffffffffffffffff 01 02 825208 94" + to + " 80 05 a0" + from},
		{128, change(x, func(t *api.Tx) { t.Create = true }), "f7" + label + "8180 01 02 825208 80 80 05 a0" + from},
	}
	for _, r := range rows {
		is(t, fmt.Sprint("Bytes, chain ", r.chain), fmt.Sprintf("%x", tx.Bytes(r.chain, r.t)), strings.ReplaceAll(r.enc, " ", ""))
	}
}

// P1401: what is signed, each item at its edges; Sig, and To of one that creates, are not in it.
func TestBytes(t *testing.T) {
	for _, x := range varied() {
		for _, chain := range []uint64{0, 1, 127, 128, math.MaxUint64} {
			is(t, fmt.Sprint("Bytes, chain ", chain, ", of ", seen(x)), fmt.Sprintf("%x", tx.Bytes(chain, x)), fmt.Sprintf("%x", plainText(chain, x)))
		}
		y := x
		y.Sig[5] ^= 9
		if x.Create {
			y.To[0] ^= 9
		}
		is(t, "Bytes with another Sig", fmt.Sprintf("%x", tx.Bytes(7, y)), fmt.Sprintf("%x", tx.Bytes(7, x)))
	}
}

// P1401: data beyond MaxData are signed as others, up to what rlp refuses.
func TestBytesRefused(t *testing.T) {
	for _, chain := range []uint64{0, math.MaxUint64} {
		for _, create := range []bool{false, true} {
			x := change(some(), func(t *api.Tx) { t.Create = create })
			last := 0 // the most data that fit
			for n := 65300; n < 65536; n++ {
				x.Data = data(n)
				text := plainText(chain, x)
				if len(text) > 65536 {
					text = nil
				} else {
					last = n
				}
				is(t, fmt.Sprint("Bytes of so many data: ", n), fmt.Sprintf("%x", tx.Bytes(chain, x)), fmt.Sprintf("%x", text))
			}
			if last < 65300 || last > 65500 {
				t.Errorf("no edge: %d", last)
			}
			x.Data = data(last + 1)
			_, err := rlp.Encode(rlp.Str(x.Data))
			is(t, "rlp takes the data alone", int(err), 0)
		}
	}
	for _, n := range []int{8192, 8193, 65536, 1 << 20} {
		x := change(some(), func(t *api.Tx) { t.Data = data(n) })
		want := plainText(7, x)
		if n >= 65536 {
			want = nil
		}
		is(t, fmt.Sprint("Bytes of so many data: ", n), bytes.Equal(tx.Bytes(7, x), want), true)
	}
}
