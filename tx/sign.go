package tx

import (
	"bytes"

	"conclave/api"
	"conclave/ed"
	"conclave/gas"
)

// Sign: the transaction with the seed's key and signature, whatever stood in their places.
func Sign(chain uint64, seed []byte, t api.Tx) (api.Tx, api.Errno) {
	key, err := ed.Public(seed)
	switch {
	case err != api.OK:
		return api.Tx{}, err
	case tooBig(t):
		return api.Tx{}, api.ErrBig
	}
	t.From = key // ahead of Bytes: it is signed, too
	t.Data = bytes.Clone(t.Data)
	t.Sig, err = ed.Sign(seed, Bytes(chain, t))
	return t, err
}

// Check: what can be told of a transaction without a state.
func Check(chain uint64, t api.Tx) api.Errno {
	switch {
	case tooBig(t):
		return api.ErrBig
	case t.Gas < gas.Intrinsic(t.Data, t.Create) || t.Gas > api.BlockGas:
		return api.ErrFee
	case !ed.Verify(t.From, Bytes(chain, t), t.Sig):
		return api.ErrSig
	}
	return api.OK
}
