package rlp_test

import (
	"encoding/hex"
	"math/big"
	"math/rand/v2"
	"slices"
	"strings"
	"testing"

	"conclave/api"
	"conclave/rlp"
)

// What stands here says the chapter's words over again, without the package.

// seen: an item as a text, in which nil and empty are one.
func seen(x rlp.Item) string {
	var s strings.Builder
	if x.List {
		s.WriteString("list ")
	}
	s.WriteString(hex.EncodeToString(x.Bytes))
	if len(x.Items) > 0 || x.List {
		s.WriteString("(")
		for _, y := range x.Items {
			s.WriteString(seen(y) + ",")
		}
		s.WriteString(")")
	}
	return s.String()
}

// plainHead: c0 or 80 and a number, or f7 or b7 and how many bytes it has, and these.
func plainHead(low, high byte, n int) []byte {
	if n <= 55 {
		return []byte{low + byte(n)}
	}
	bs := big.NewInt(int64(n)).Bytes()
	return append([]byte{high + byte(len(bs))}, bs...)
}

// plainBytes: an item's encoding, whatever the limits are.
func plainBytes(x rlp.Item) []byte {
	if !x.List {
		if len(x.Bytes) == 1 && x.Bytes[0] < 0x80 {
			return slices.Clone(x.Bytes)
		}
		return slices.Concat(plainHead(0x80, 0xb7, len(x.Bytes)), x.Bytes)
	}
	var parts [][]byte
	for _, y := range x.Items {
		parts = append(parts, plainBytes(y))
	}
	body := slices.Concat(parts...)
	return slices.Concat(plainHead(0xc0, 0xf7, len(body)), body)
}

// neither: is it, or one in it, neither bytes nor a list?
func neither(x rlp.Item) bool {
	return x.List && len(x.Bytes) > 0 || !x.List && len(x.Items) > 0 || slices.ContainsFunc(x.Items, neither)
}

// lists: how many lists stand within one another at the most.
func lists(x rlp.Item) int {
	if !x.List {
		return 0
	}
	most := 0
	for _, y := range x.Items {
		most = max(most, lists(y))
	}
	return most + 1
}

// plainEncode: as P601 says.
func plainEncode(x rlp.Item) ([]byte, api.Errno) {
	if neither(x) {
		return nil, api.ErrArg
	}
	b := plainBytes(x)
	if lists(x) > 16 || len(b) > 65536 {
		return nil, api.ErrBig
	}
	return b, api.OK
}

// plainSpan: where what an item holds begins and ends, or what is wrong with its head: the head's own bytes ahead of those that it tells.
func plainSpan(b []byte, at int) (from, to int, err api.Errno) {
	left := b[at:]
	if len(left) == 0 {
		return 0, 0, api.ErrEnd
	}
	c := left[0]
	many := map[bool]int{c >= 0xb8 && c <= 0xbf: int(c) - 0xb7, c >= 0xf8: int(c) - 0xf7}[true]
	if len(left) < 1+many {
		return 0, 0, api.ErrEnd
	}
	told := new(big.Int).SetBytes(left[1 : 1+many])
	switch {
	case c < 0x80:
		return at, at + 1, api.OK
	case many > 0 && left[1] == 0, many > 0 && told.Cmp(big.NewInt(56)) < 0:
		return 0, 0, api.ErrRlp
	case many == 0:
		told = big.NewInt(int64(c & 0x3f))
	}
	if told.Cmp(big.NewInt(int64(len(left)-1-many))) > 0 {
		return 0, 0, api.ErrEnd
	}
	if c == 0x81 && left[1] < 0x80 {
		return 0, 0, api.ErrRlp
	}
	from = at + 1 + many
	return from, from + int(told.Int64()), api.OK
}

// plainRead: the item at a place, or the first that is wrong from the left on; and where it ends.
func plainRead(b []byte, at, within int) (rlp.Item, int, api.Errno) {
	from, to, err := plainSpan(b, at)
	if err != api.OK {
		return rlp.Item{}, 0, err
	}
	if b[at] < 0xc0 {
		return rlp.Item{Bytes: b[from:to]}, to, api.OK
	}
	if within == 16 {
		return rlp.Item{}, 0, api.ErrBig
	}
	x := rlp.Item{List: true}
	for from < to {
		y, end, err := plainRead(b, from, within+1)
		if err != api.OK {
			return rlp.Item{}, 0, err
		}
		x.Items = append(x.Items, y)
		from = end
	}
	if from != to {
		return rlp.Item{}, 0, api.ErrRlp
	}
	return x, to, api.OK
}

// plainFirst: as P602 says.
func plainFirst(b []byte) (rlp.Item, int, api.Errno) {
	if len(b) > 65536 {
		return rlp.Item{}, 0, api.ErrBig
	}
	return plainRead(b, 0, 0)
}

// encodes: Encode answers as P601 says.
func encodes(t *testing.T, x rlp.Item) {
	t.Helper()
	got, err := rlp.Encode(x)
	want, wantErr := plainEncode(x)
	if err != wantErr || string(got) != string(want) {
		t.Fatalf("Encode of %.200s: %.200x (%d bytes), %v, not %.200x (%d bytes), %v", seen(x), got, len(got), err, want, len(want), wantErr)
	}
}

// decodes: First and Decode answer as P602 says, and Encode of Decode is the bytes (P604).
func decodes(t *testing.T, b []byte) api.Errno {
	t.Helper()
	want, wantN, wantErr := plainFirst(b)
	x, n, err := rlp.First(b)
	if err != wantErr || n != wantN || seen(x) != seen(want) {
		t.Fatalf("First of %.200x (%d bytes): %.200s, %d, %v, not %.200s, %d, %v", b, len(b), seen(x), n, err, seen(want), wantN, wantErr)
	}
	if wantErr == api.OK && wantN < len(b) {
		want, wantErr = rlp.Item{}, api.ErrRlp
	}
	x, err = rlp.Decode(b)
	if err != wantErr || seen(x) != seen(want) {
		t.Fatalf("Decode of %.200x (%d bytes): %.200s, %v, not %.200s, %v", b, len(b), seen(x), err, seen(want), wantErr)
	}
	if err == api.OK {
		if back, err := rlp.Encode(x); err != api.OK || string(back) != string(b) {
			t.Fatalf("Encode of Decode of %.200x (%d bytes): %.200x, %v", b, len(b), back, err)
		}
	}
	return err
}

// fails: Decode refuses with an error, and so does First.
func fails(t *testing.T, b []byte, want api.Errno) {
	t.Helper()
	if x, n, err := rlp.First(b); err != want || n != 0 || x.List || x.Bytes != nil || x.Items != nil {
		t.Errorf("First of %.200x (%d bytes): %.200s, %d, %v, not %v", b, len(b), seen(x), n, err, want)
	}
	if x, err := rlp.Decode(b); err != want || x.List || x.Bytes != nil || x.Items != nil {
		t.Errorf("Decode of %.200x (%d bytes): %.200s, %v, not %v", b, len(b), seen(x), err, want)
	}
}

func source() *rand.Rand { return rand.New(rand.NewPCG(6, 601)) }

// some: n bytes, none of them 0.
func some(n int) []byte {
	b := make([]byte, n)
	for i := range b {
		b[i] = byte(i%255) + 1
	}
	return b
}

func str(b ...byte) rlp.Item      { return rlp.Item{Bytes: b} }
func list(l ...rlp.Item) rlp.Item { return rlp.Item{List: true, Items: l} }
func unhex(t *testing.T, s string) []byte {
	t.Helper()
	b, err := hex.DecodeString(strings.ReplaceAll(s, " ", ""))
	if err != nil {
		t.Fatal(err)
	}
	return b
}

// inside: x within n lists.
func inside(x rlp.Item, n int) rlp.Item {
	for range n {
		x = list(x)
	}
	return x
}

// draw: an item of any kind, small, with lists within at most deep others.
func draw(r *rand.Rand, deep int) rlp.Item {
	if deep == 0 || r.IntN(2) == 0 {
		lengths := []int{0, 1, 1, 1, 2, 3, 32, 54, 55, 56, 57, 255, 256}
		b := make([]byte, lengths[r.IntN(len(lengths))])
		for i := range b {
			b[i] = byte(r.Uint32())
		}
		return rlp.Item{Bytes: b}
	}
	x := rlp.Item{List: true}
	for range r.IntN(6) {
		x.Items = append(x.Items, draw(r, deep-1))
	}
	return x
}
