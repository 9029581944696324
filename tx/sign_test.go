package tx_test

import (
	"fmt"
	"math"
	"math/big"
	"math/rand/v2"
	"slices"
	"testing"

	"conclave/api"
	"conclave/tx"
)

// checked: Check tells just that.
func checked(t *testing.T, what string, chain uint64, x api.Tx, want api.Errno) {
	t.Helper()
	is(t, "Check of "+what, int(tx.Check(chain, x)), int(want))
}

// P1402: the key and the signature are the library's, for each item at its edges; all else stays.
func TestSign(t *testing.T) {
	for i, x := range varied() {
		chain := []uint64{0, 7, math.MaxUint64}[i%3]
		y, err := tx.Sign(chain, seed(byte(i)), x)
		is(t, "Sign of "+seen(x), fmt.Sprint(seen(y), int(err)), fmt.Sprint(seen(plainSign(chain, seed(byte(i)), x)), 0))
	}
}

// P1402: a signature written out.
func TestSignByHand(t *testing.T) {
	x, err := tx.Sign(7, unhex("9d61b19deffd5a60ba844af492ec2cc44449c5697b326919703bac031cae7f60"), api.Tx{Gas: 21000})
	is(t, "From", fmt.Sprintf("%x %d", x.From, int(err)), "d75a980182b10ab7d54bfed3c964073a0ee172f3daa62325af021a68f707511a 0")
	checked(t, "it", 7, x, api.OK)
}

// P1402: what stands in From and Sig ahead of Sign does not matter.
func TestSignAgain(t *testing.T) {
	x, _ := tx.Sign(7, seed(1), some())
	for what, y := range map[string]api.Tx{
		"signed already":      x,
		"signed by another":   plainSign(7, seed(2), some()),
		"of another chain":    plainSign(8, seed(1), some()),
		"with nothing there":  change(some(), func(t *api.Tx) { t.From, t.Sig = api.Key{}, api.Sig{} }),
		"with no key there":   change(some(), func(t *api.Tx) { t.From[31] = 0xff }),
		"with a false number": change(x, func(t *api.Tx) { t.Sig[63] = 0xff }),
	} {
		z, err := tx.Sign(7, seed(1), y)
		is(t, "Sign of one "+what, fmt.Sprint(seen(z), int(err)), fmt.Sprint(seen(x), 0))
	}
}

// P1402: seeds of other lengths; a wrong seed is told ahead of data that are too big.
func TestSignErrors(t *testing.T) {
	fits, big := some(), change(some(), func(t *api.Tx) { t.Data = data(8193) })
	rows := []struct {
		seed      []byte
		fits, big api.Errno
	}{
		{nil, api.ErrArg, api.ErrArg},
		{[]byte{}, api.ErrArg, api.ErrArg},
		{seed(1)[:1], api.ErrArg, api.ErrArg},
		{seed(1)[:31], api.ErrArg, api.ErrArg},
		{seed(1), api.OK, api.ErrBig},
		{append(seed(1), 1), api.ErrArg, api.ErrArg},
		{append(seed(1), seed(1)...), api.ErrArg, api.ErrArg},
	}
	for _, r := range rows {
		for want, x := range map[*api.Errno]api.Tx{&r.fits: fits, &r.big: big} {
			y, err := tx.Sign(7, r.seed, x)
			is(t, fmt.Sprint("Sign with a seed of ", len(r.seed), ", data of ", len(x.Data)), fmt.Sprint(int(err), seen(y) == seen(api.Tx{})), fmt.Sprint(int(*want), *want != api.OK))
		}
	}
	for n, want := range map[int]api.Errno{8191: api.OK, 8192: api.OK, 8193: api.ErrBig, 65536: api.ErrBig, 1 << 20: api.ErrBig} {
		_, err := tx.Sign(7, seed(1), change(some(), func(t *api.Tx) { t.Data = data(n) }))
		is(t, fmt.Sprint("Sign of data of ", n), int(err), int(want))
	}
}

// P1402: what Sign gives, and what the library signs, holds, of all lengths of data and all chains.
func TestCheckHolds(t *testing.T) {
	for i, n := range sizes() {
		for _, create := range []bool{false, true} {
			for _, chain := range []uint64{0, 1, 128, math.MaxUint64} {
				x := change(some(), func(t *api.Tx) { t.Data, t.Create, t.Gas = data(n), create, 300000 })
				what := fmt.Sprint("data of ", n, ", chain ", chain)
				checked(t, what, chain, plainSign(chain, seed(byte(i)), x), api.OK)
				y, _ := tx.Sign(chain, seed(byte(i)), x)
				checked(t, what, chain, y, api.OK)
			}
		}
	}
	big := change(some(), func(t *api.Tx) { t.Data, t.Gas = data(8193), 300000 })
	checked(t, "one byte too much", 7, plainSign(7, seed(1), big), api.ErrBig)
	checked(t, "far too much", 7, change(big, func(t *api.Tx) { t.Data = data(1 << 20) }), api.ErrBig)
}

// P1402: gas at gas.Intrinsic and one less, at BlockGas and one more.
func TestCheckGas(t *testing.T) {
	rows := []struct {
		data         []byte
		call, create uint64
	}{
		{nil, 21000, 53000},
		{[]byte{0}, 21004, 53006},
		{[]byte{1}, 21016, 53018},
		{[]byte{0, 1}, 21020, 53022},
		{make([]byte, 32), 21128, 53130},
		{make([]byte, 33), 21132, 53136},
		{make([]byte, 8192), 53768, 86280},
		{slices.Repeat([]byte{255}, 8192), 152072, 184584},
	}
	for _, r := range rows {
		for _, create := range []bool{false, true} {
			least := r.call
			if create {
				least = r.create
			}
			for n, want := range map[uint64]api.Errno{
				0: api.ErrFee, least - 1: api.ErrFee, least: api.OK, least + 1: api.OK,
				1999999: api.OK, 2000000: api.OK, 2000001: api.ErrFee, 1 << 32: api.ErrFee, 1<<32 + least: api.ErrFee, math.MaxUint64: api.ErrFee,
			} {
				x := plainSign(7, seed(3), api.Tx{Gas: n, Create: create, Data: r.data})
				checked(t, fmt.Sprint("gas ", n, " where ", least, " is least"), 7, x, want)
			}
		}
	}
}

// P1402: a signature holds for its chain alone, and for its transaction alone.
func TestCheckOthers(t *testing.T) {
	for _, create := range []bool{false, true} {
		x := plainSign(7, seed(1), change(some(), func(t *api.Tx) { t.Create = create }))
		checked(t, "it", 7, x, api.OK)
		for _, chain := range []uint64{0, 6, 8, 135, 1 << 32, 1<<32 + 7, math.MaxUint64} {
			checked(t, fmt.Sprint("another chain: ", chain), chain, x, api.ErrSig)
		}
		for what, f := range map[string]func(t *api.Tx){
			"Nonce":       func(t *api.Tx) { t.Nonce++ },
			"Price":       func(t *api.Tx) { t.Price-- },
			"Gas":         func(t *api.Tx) { t.Gas++ },
			"Create":      func(t *api.Tx) { t.Create = !t.Create },
			"Value":       func(t *api.Tx) { t.Value[3]++ },
			"Data":        func(t *api.Tx) { t.Data = []byte("dot") },
			"less Data":   func(t *api.Tx) { t.Data = []byte("do") },
			"no Data":     func(t *api.Tx) { t.Data = nil },
			"more Data":   func(t *api.Tx) { t.Data = []byte("dog\x00") },
			"another key": func(t *api.Tx) { t.From = plainSign(7, seed(2), *t).From },
			"no key":      func(t *api.Tx) { t.From = api.Key{} },
			"a signature of another key": func(t *api.Tx) {
				t.Sig = plainSign(7, seed(2), *t).Sig
			},
			"no signature": func(t *api.Tx) { t.Sig = api.Sig{} },
			"halves that changed places": func(t *api.Tx) {
				t.Sig = api.Sig(slices.Concat(x.Sig[32:], x.Sig[:32]))
			},
		} {
			checked(t, what, 7, change(x, f), api.ErrSig)
		}
		want := api.ErrSig
		if create { // To is passed over
			want = api.OK
		}
		checked(t, "To", 7, change(x, func(t *api.Tx) { t.To[19]++ }), want)
	}
}

// P1402: a signature with any byte changed does not hold, nor does one with L added to its second half; nor does it with any byte of the key changed.
func TestCheckBytes(t *testing.T) {
	x := plainSign(7, seed(1), some())
	r := rand.New(rand.NewPCG(14, 2))
	for i := range x.Sig {
		checked(t, fmt.Sprint("byte ", i, " of Sig"), 7, change(x, func(t *api.Tx) { t.Sig[i] ^= 1 << r.IntN(8) }), api.ErrSig)
	}
	for i := range x.From {
		checked(t, fmt.Sprint("byte ", i, " of From"), 7, change(x, func(t *api.Tx) { t.From[i] ^= 1 << r.IntN(8) }), api.ErrSig)
	}
	half := slices.Clone(x.Sig[32:])
	slices.Reverse(half)
	order, _ := new(big.Int).SetString("7237005577332262213973186563042994240857116359379907606001950938285454250989", 10)
	more := new(big.Int).Add(new(big.Int).SetBytes(half), order).FillBytes(make([]byte, 32))
	slices.Reverse(more)
	checked(t, "another number that is the same modulo L", 7, change(x, func(t *api.Tx) { copy(t.Sig[32:], more) }), api.ErrSig)
}

// P1402: the first that fits: data, gas, signature, wherever they come together.
func TestCheckOrder(t *testing.T) {
	for faults := range 16 {
		big, little, much, forged := faults&1 != 0, faults&2 != 0, faults&4 != 0, faults&8 != 0
		x := change(some(), func(t *api.Tx) {
			t.Gas = 400000
			if big {
				t.Data = data(8193)
			}
			if little {
				t.Gas = 1000
			}
			if much {
				t.Gas += 2000000
			}
		})
		x = plainSign(7, seed(1), x)
		if forged {
			x.Sig[0]++
		}
		want := api.OK
		switch {
		case big:
			want = api.ErrBig
		case little || much:
			want = api.ErrFee
		case forged:
			want = api.ErrSig
		}
		checked(t, fmt.Sprintf("faults %04b", faults), 7, x, want)
	}
	checked(t, "nothing", 7, api.Tx{}, api.ErrFee)
}
