package kv

import (
	"bytes"
	"iter"
	"math"
	"slices"

	"conclave/api"
)

const (
	keyHead  = 2              // bytes that tell a key's length
	valHead  = 4              // and a value's
	noVal    = math.MaxUint32 // in place of a value's length: the key is gone
	mostSize = api.MaxRecord - 1
)

// Batch: the record of changes, without the byte that the log has ahead of it.
func Batch(l []Change) ([]byte, api.Errno) {
	for _, c := range l { // a key that is none goes ahead of what is too much, wherever it stands
		if len(c.Key) < 1 || len(c.Key) > api.MaxKey {
			return nil, api.ErrArg
		}
	}
	return write(slices.Values(l))
}

// write: the record of changes whose keys are some; ErrBig: a log has no room for it and the byte ahead.
func write(l iter.Seq[Change]) ([]byte, api.Errno) {
	var b []byte
	for c := range l {
		val := c.Val
		if c.Gone {
			val = nil
		}
		// What is left is told ahead of the value's length: that one could be beyond any sum.
		left := mostSize - len(b) - keyHead - len(c.Key) - valHead
		if len(val) > left {
			return nil, api.ErrBig
		}
		told := uint32(len(val))
		if c.Gone {
			told = noVal
		}
		b = append(b, byte(len(c.Key)>>8), byte(len(c.Key)))
		b = append(b, c.Key...)
		b = append(b, byte(told>>24), byte(told>>16), byte(told>>8), byte(told))
		b = append(b, val...)
	}
	return b, api.OK
}

// Unbatch: the changes of a batch's record.
func Unbatch(b []byte) ([]Change, api.Errno) {
	var out []Change
	for c, err := range changes(b) {
		if err != api.OK {
			return nil, err
		}
		out = append(out, Change{Key: bytes.Clone(c.Key), Val: bytes.Clone(c.Val), Gone: c.Gone})
	}
	return out, api.OK
}

// changes: those of a record, one behind the other, as parts of it; where none stands any more, ErrRot comes last.
func changes(b []byte) iter.Seq2[Change, api.Errno] {
	return func(yield func(Change, api.Errno) bool) {
		for rest := b; len(rest) > 0; {
			c, n, err := next(rest)
			if !yield(c, err) || err != api.OK {
				return
			}
			rest = rest[n:]
		}
	}
}

// next: the change with which bytes begin, and how many of them it takes.
func next(b []byte) (Change, int, api.Errno) {
	if len(b) < keyHead {
		return Change{}, 0, api.ErrRot
	}
	size := number(b[:keyHead])
	if size < 1 || size > api.MaxKey {
		return Change{}, 0, api.ErrRot
	}
	at := keyHead + int(size)
	if len(b)-at < valHead {
		return Change{}, 0, api.ErrRot
	}
	key, told := b[keyHead:at], number(b[at:at+valHead])
	at += valHead
	if told == noVal {
		return Change{Key: key, Gone: true}, at, api.OK
	}
	if told > uint64(len(b)-at) {
		return Change{}, 0, api.ErrRot
	}
	end := at + int(told)
	return Change{Key: key, Val: b[at:end]}, end, api.OK
}

// number: of bytes, the highest first.
func number(b []byte) uint64 {
	n := uint64(0)
	for _, c := range b {
		n = n<<8 | uint64(c)
	}
	return n
}
