package rlp

import (
	"bytes"
	"iter"

	"conclave/api"
)

// Decode: the item that the bytes are, all of them.
func Decode(b []byte) (Item, api.Errno) {
	x, n, err := First(b)
	if err != api.OK {
		return Item{}, err
	}
	if n < len(b) {
		return Item{}, api.ErrRlp
	}
	return x, api.OK
}

// First: the item that the bytes begin with, and how many it took.
func First(b []byte) (x Item, n int, err api.Errno) {
	defer func() {
		if why, wrong := recover().(api.Errno); wrong {
			x, n, err = Item{}, 0, why
		}
	}()
	if len(b) > api.MaxRlp {
		panic(api.ErrBig)
	}
	x, n = read(b, 0, 0)
	return x, n, api.OK
}

// read: the item that begins at a place and stands within so many lists, and where it ends.
func read(b []byte, at, within int) (Item, int) {
	list, from, to := span(b, at)
	if !list {
		return Item{Bytes: bytes.Clone(b[from:to])}, to
	}
	if within >= api.MaxRlpDeep {
		panic(api.ErrBig)
	}
	x := Item{List: true}
	for y := range items(b, from, to, within+1) {
		x.Items = append(x.Items, y)
	}
	return x, to
}

// items: of a list, from its first byte behind the head to its end. An item may be read beyond that end, as far as there are bytes: what is wrong inside it is met ahead of its not ending there.
func items(b []byte, from, to, within int) iter.Seq[Item] {
	return func(yield func(Item) bool) {
		for at := from; at < to; {
			x, end := read(b, at, within)
			if end > to {
				panic(api.ErrRlp)
			}
			if !yield(x) {
				return
			}
			at = end
		}
	}
}

// span: is the item that begins at a place a list, and from where to where do its bytes go, or its items?
func span(b []byte, at int) (list bool, from, to int) {
	if at == len(b) {
		panic(api.ErrEnd)
	}
	first := b[at]
	if first < bytesHead {
		return false, at, at + 1
	}
	kind := byte(bytesHead)
	if first >= listHead {
		kind = listHead
	}
	from, n := length(b, at+1, int(first-kind))
	if n > uint64(len(b)-from) {
		panic(api.ErrEnd)
	}
	to = from + int(n)
	if kind == bytesHead && n == 1 && b[from] < bytesHead {
		panic(api.ErrRlp)
	}
	return kind == listHead, from, to
}

// length: what a head tells whose first byte is told above its kind and ends at a place; and where the head ends.
func length(b []byte, at, told int) (int, uint64) {
	if told <= mostShort {
		return at, uint64(told)
	}
	end := at + told - mostShort
	if end > len(b) {
		panic(api.ErrEnd)
	}
	n := uint64(0)
	for _, c := range b[at:end] {
		n = n<<8 | uint64(c)
	}
	if b[at] == 0 || n <= mostShort {
		panic(api.ErrRlp)
	}
	return end, n
}
