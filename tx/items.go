package tx

import (
	"iter"

	"conclave/api"
	"conclave/rlp"
)

// items: of a transaction, without its signature.
func items(t api.Tx) []rlp.Item {
	return []rlp.Item{
		rlp.Num(t.Nonce),
		rlp.Num(t.Price),
		rlp.Num(t.Gas),
		target(t),
		rlp.Big(t.Value),
		rlp.Str(t.Data),
		rlp.Str(t.From[:]),
	}
}

// target: To; nothing tells that it creates.
func target(t api.Tx) rlp.Item {
	if t.Create {
		return rlp.Str(nil)
	}
	return rlp.Str(t.To[:])
}

// reader: takes an item into its place; false, if it can't stand there.
type reader func(x rlp.Item) bool

// read: the transaction of a list; false, if it is none. How big its data are is not asked.
func read(list rlp.Item) (api.Tx, bool) {
	var t api.Tx
	to := readers(&t)
	if !list.List || len(list.Items) != len(to) {
		return api.Tx{}, false
	}
	for x, take := range pairs(list.Items, to) {
		if !take(x) {
			return api.Tx{}, false
		}
	}
	return t, true
}

// pairs: each item with its reader; there are as many of both.
func pairs(items []rlp.Item, to []reader) iter.Seq2[rlp.Item, reader] {
	return func(yield func(rlp.Item, reader) bool) {
		for i, x := range items {
			if !yield(x, to[i]) {
				return
			}
		}
	}
}

// readers: of all items of t, and of its signature, in their order.
func readers(t *api.Tx) []reader {
	return []reader{
		number(&t.Nonce),
		number(&t.Price),
		number(&t.Gas),
		either(nothing(&t.Create), fixed(t.To[:])),
		big(&t.Value),
		anything(&t.Data),
		fixed(t.From[:]),
		fixed(t.Sig[:]),
	}
}

// number: of 64 bits.
func number(n *uint64) reader {
	return func(x rlp.Item) bool {
		var err api.Errno
		*n, err = rlp.Uint(x)
		return err == api.OK
	}
}

// big: a number of 256 bits.
func big(w *api.Word) reader {
	return func(x rlp.Item) bool {
		var err api.Errno
		*w, err = rlp.Word(x)
		return err == api.OK
	}
}

// anything: any bytes. They are kept, since what rlp hands out is nobody else's.
func anything(b *[]byte) reader {
	return func(x rlp.Item) bool {
		*b = x.Bytes
		return !x.List
	}
}

// fixed: just as many bytes as there is room, which a list has not.
func fixed(room []byte) reader {
	return func(x rlp.Item) bool {
		if len(x.Bytes) != len(room) {
			return false
		}
		copy(room, x.Bytes)
		return true
	}
}

// nothing: no byte, which sets the mark.
func nothing(mark *bool) reader {
	return func(x rlp.Item) bool {
		*mark = !x.List && len(x.Bytes) == 0
		return *mark
	}
}

// either: the first that takes the item.
func either(a, b reader) reader {
	return func(x rlp.Item) bool { return a(x) || b(x) }
}
