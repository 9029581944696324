package rlp

import (
	"slices"

	"conclave/api"
	"conclave/word"
)

// Encode: the bytes of an item.
func Encode(x Item) (out []byte, err api.Errno) {
	defer func() {
		if why, wrong := recover().(api.Errno); wrong {
			out, err = nil, why
		}
	}()
	check(x)
	return appendItem(nil, x, 0), api.OK
}

// check gives up if x, or an item in it, is neither bytes nor a list. It goes all through ahead of any other work, since this error comes ahead of what is too great.
func check(x Item) {
	if x.List && len(x.Bytes) > 0 || !x.List && len(x.Items) > 0 {
		panic(api.ErrArg)
	}
	for _, y := range x.Items {
		check(y)
	}
}

// appendItem: out, and behind it the encoding of x, which stands within so many lists.
func appendItem(out []byte, x Item, within int) []byte {
	if !x.List {
		return appendBytes(out, x.Bytes)
	}
	if within >= api.MaxRlpDeep {
		panic(api.ErrBig)
	}
	from := len(out)
	for _, y := range x.Items {
		out = appendItem(out, y, within+1)
	}
	return fitting(slices.Insert(out, from, head(listHead, len(out)-from)...))
}

// appendBytes: out, and behind it the encoding of bytes.
func appendBytes(out, b []byte) []byte {
	if len(b) > api.MaxRlp { // not even copied
		panic(api.ErrBig)
	}
	if len(b) != 1 || b[0] >= bytesHead {
		out = append(out, head(bytesHead, len(b))...)
	}
	return fitting(append(out, b...))
}

// head: of a kind, ahead of n bytes.
func head(kind byte, n int) []byte {
	if n <= mostShort {
		return []byte{kind + byte(n)}
	}
	length := word.Short(word.Of(uint64(n)))
	return append([]byte{kind + mostShort + byte(len(length))}, length...)
}

// fitting: out, as long as it is an encoding that may be.
func fitting(out []byte) []byte {
	if len(out) > api.MaxRlp {
		panic(api.ErrBig)
	}
	return out
}
