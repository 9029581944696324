package signer

import (
	"conclave/api"
	"conclave/rlp"
)

const recordItems = 6

// record: what was signed, as the log keeps it.
type record struct {
	mark Mark
	text []byte
	sig  api.Sig
	note []byte
}

// encode: the bytes of a record; ErrBig: they are more than MaxRecord, which is rlp's bound, too.
func (r record) encode() ([]byte, api.Errno) {
	return rlp.Encode(rlp.Item{List: true, Items: []rlp.Item{
		rlp.Num(r.mark.Height),
		rlp.Num(uint64(r.mark.Round)),
		rlp.Num(uint64(r.mark.Step)),
		{Bytes: r.text}, // just read: rlp.Str would copy it, however much it is
		{Bytes: r.sig[:]},
		{Bytes: r.note},
	}})
}

// read: the record that the bytes are; false, if they are none, or if its mark can't be. Whether its signature holds is not asked.
func read(b []byte) (record, bool) {
	x, err := rlp.Decode(b)
	if err != api.OK || len(x.Items) != recordItems {
		return record{}, false
	}
	height, wrongHeight := rlp.Uint(x.Items[0])
	round, wrongRound := rlp.Uint(x.Items[1])
	step, wrongStep := rlp.Uint(x.Items[2])
	text, sig, note := x.Items[3], x.Items[4], x.Items[5]
	r := record{text: text.Bytes, note: note.Bytes} // what rlp hands out is nobody else's
	switch {
	case wrongHeight != api.OK || wrongRound != api.OK || wrongStep != api.OK,
		round > mostRound || step > precommit, // ahead of making them an int
		text.List || sig.List || note.List,
		len(sig.Bytes) != len(r.sig):
		return record{}, false
	}
	r.mark = Mark{Height: height, Round: int(round), Step: int(step)}
	copy(r.sig[:], sig.Bytes)
	return r, r.mark.can()
}
