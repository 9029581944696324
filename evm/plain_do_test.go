package evm_test

import (
	"math/big"

	"conclave/api"
	"conclave/evm"
	"conclave/gas"
	"conclave/keccak"
	"conclave/word"
)

func bigTruth(is bool) *big.Int {
	if is {
		return big.NewInt(1)
	}
	return new(big.Int)
}

func bigBytes(b []byte) *big.Int { return new(big.Int).SetBytes(b) }

// arithmetic: what opcodes of numbers put, nil of others.
func arithmetic(o op, x []*big.Int) *big.Int {
	z := new(big.Int)
	switch o {
	case ADD:
		return z.Add(x[0], x[1])
	case MUL:
		return z.Mul(x[0], x[1])
	case SUB:
		return z.Sub(x[0], x[1])
	case DIV, SDIV, MOD, SMOD:
		if x[1].Sign() == 0 {
			return z
		}
		switch o {
		case DIV:
			return z.Quo(x[0], x[1])
		case SDIV:
			return z.Quo(signed(x[0]), signed(x[1]))
		case MOD:
			return z.Rem(x[0], x[1])
		}
		return z.Rem(signed(x[0]), signed(x[1]))
	case ADDMOD, MULMOD:
		if x[2].Sign() == 0 {
			return z
		}
		if o == ADDMOD {
			return z.Rem(z.Add(x[0], x[1]), x[2])
		}
		return z.Rem(z.Mul(x[0], x[1]), x[2])
	case EXP:
		return z.Exp(x[0], x[1], bigPow(256))
	case SIGNEXTEND:
		if x[0].Cmp(big.NewInt(31)) >= 0 {
			return x[1]
		}
		bits := uint(8 * (x[0].Int64() + 1))
		low := z.Mod(x[1], bigPow(bits))
		if low.Bit(int(bits)-1) == 1 {
			low.Sub(low, bigPow(bits))
		}
		return low
	case LT:
		return bigTruth(x[0].Cmp(x[1]) < 0)
	case GT:
		return bigTruth(x[0].Cmp(x[1]) > 0)
	case SLT:
		return bigTruth(signed(x[0]).Cmp(signed(x[1])) < 0)
	case SGT:
		return bigTruth(signed(x[0]).Cmp(signed(x[1])) > 0)
	case EQ:
		return bigTruth(x[0].Cmp(x[1]) == 0)
	case ISZERO:
		return bigTruth(x[0].Sign() == 0)
	case AND:
		return z.And(x[0], x[1])
	case OR:
		return z.Or(x[0], x[1])
	case XOR:
		return z.Xor(x[0], x[1])
	case NOT:
		return z.Not(x[0])
	case BYTE:
		if x[0].Cmp(big.NewInt(32)) >= 0 {
			return z
		}
		return z.SetUint64(uint64(x[1].FillBytes(make([]byte, 32))[x[0].Int64()]))
	case SHL, SHR, SAR:
		n := uint(256)
		if x[0].Cmp(big.NewInt(256)) < 0 {
			n = uint(x[0].Int64())
		}
		switch o {
		case SHL:
			return z.Lsh(x[1], n)
		case SHR:
			return z.Rsh(x[1], n)
		}
		return z.Rsh(signed(x[1]), n)
	}
	return nil
}

// told: what opcodes put that look around, nil of others.
func (f *plainFrame) told(o op, x []*big.Int) *big.Int {
	size := func(n int) *big.Int { return big.NewInt(int64(n)) }
	switch o {
	case ADDRESS:
		return bigBytes(f.m.To[:])
	case ORIGIN:
		return bigBytes(f.env.Origin[:])
	case CALLER:
		return bigBytes(f.m.Caller[:])
	case CALLVALUE:
		return bigOf(f.m.Value)
	case CALLDATASIZE:
		return size(len(f.m.Data))
	case CODESIZE:
		return size(len(f.code))
	case GASPRICE:
		return bigNum(f.env.Price)
	case RETURNDATASIZE:
		return size(len(f.last))
	case BALANCE:
		return f.s.at(addrOf(x[0])).balance
	case EXTCODESIZE:
		return size(len(f.s.at(addrOf(x[0])).code))
	case EXTCODEHASH:
		if !f.s.exists(addrOf(x[0])) {
			return new(big.Int)
		}
		h := keccak.Sum([]byte(f.s.at(addrOf(x[0])).code))
		return bigBytes(h[:])
	case COINBASE:
		return bigBytes(f.env.Proposer[:])
	case TIMESTAMP:
		return bigNum(f.env.Time)
	case NUMBER:
		return bigNum(f.env.Height)
	case GASLIMIT:
		return big.NewInt(2000000)
	case CHAINID:
		return bigNum(f.env.Chain)
	case SELFBALANCE:
		return f.s.at(f.m.To).balance
	case BASEFEE:
		return new(big.Int)
	case SLOAD:
		return bigOf(f.s.at(f.m.To).slots[wordOfBig(x[0])])
	case PC:
		return size(f.place)
	case MSIZE:
		return size(len(f.memory))
	case GAS:
		return f.gas
	}
	return nil
}

// do: what a step puts, nil for nothing.
func (f *plainFrame) do(o op, x []*big.Int) *big.Int {
	if n := arithmetic(o, x); n != nil {
		return n
	}
	if n := f.told(o, x); n != nil {
		return n
	}
	switch o {
	case KECCAK256:
		h := keccak.Sum(f.part(x[0], x[1]))
		return bigBytes(h[:])
	case CALLDATALOAD:
		n := new(big.Int)
		for i := range 32 {
			n.Or(n.Lsh(n, 8), big.NewInt(int64(padded(f.m.Data, new(big.Int).Add(x[0], big.NewInt(int64(i)))))))
		}
		return n
	case CALLDATACOPY:
		f.pour(x[0], f.m.Data, x[1], x[2])
	case CODECOPY:
		f.pour(x[0], f.code, x[1], x[2])
	case EXTCODECOPY:
		f.pour(x[1], []byte(f.s.at(addrOf(x[0])).code), x[2], x[3])
	case RETURNDATACOPY:
		f.pour(x[0], f.last, x[1], x[2])
	case MLOAD:
		return bigBytes(f.part(x[0], big.NewInt(32)))
	case MSTORE:
		x[1].FillBytes(f.memory[x[0].Int64() : x[0].Int64()+32])
	case MSTORE8:
		f.memory[x[0].Int64()] = byte(new(big.Int).And(x[1], big.NewInt(255)).Uint64())
	case SSTORE:
		at := plainSlot{f.m.To, wordOfBig(x[0])}
		_, refund := gas.Sstore(f.s.first[at], f.s.at(at.a).slots[at.k], wordOfBig(x[1]), true)
		f.s.setSlot(at.a, at.k, wordOfBig(x[1]))
		f.s.refund += refund
	case 0xa0, 0xa1, 0xa2, 0xa3, 0xa4:
		l := api.Log{Addr: f.m.To, Data: f.part(x[0], x[1])}
		for _, n := range x[2:] {
			l.Topics = append(l.Topics, wordOfBig(n))
		}
		f.s.logs = append(f.s.logs, l)
	case CREATE, CREATE2:
		return f.make(o, x)
	case CALL, DELEGATECALL, STATICCALL:
		return f.send(o, x)
	}
	if o >= PUSH0 && o <= PUSH32 {
		n := new(big.Int)
		for i := range int(o - PUSH0) {
			n.Or(n.Lsh(n, 8), big.NewInt(int64(padded(f.code, big.NewInt(int64(f.place+1+i))))))
		}
		return n
	}
	return nil
}

// hand: what of the asked gas is handed on, and paid.
func (f *plainFrame) hand(asked *big.Int) uint64 {
	most := new(big.Int).Sub(f.gas, new(big.Int).Quo(f.gas, big.NewInt(64)))
	if asked.Cmp(most) < 0 {
		most = asked
	}
	f.gas = new(big.Int).Sub(f.gas, most)
	return most.Uint64()
}

func (f *plainFrame) make(o op, x []*big.Int) *big.Int {
	init := f.part(x[1], x[2])
	m := evm.Msg{Caller: f.m.To, Value: wordOfBig(x[0]), Data: init, Gas: f.hand(f.gas), Create: true, Depth: f.m.Depth + 1}
	out := f.create(m, func(nonce uint64) api.Addr {
		if o == CREATE2 {
			return evm.Address2(f.m.To, wordOfBig(x[3]), init)
		}
		return evm.Address(f.m.To, nonce)
	})
	f.gas = new(big.Int).Add(f.gas, bigNum(out.Left))
	f.last = nil
	if out.Err == api.ErrRevert {
		f.last = out.Data
	}
	if out.Err != api.OK {
		return new(big.Int)
	}
	return bigBytes(out.Made[:])
}

func (f *plainFrame) send(o op, x []*big.Int) *big.Int {
	m := evm.Msg{Caller: f.m.To, To: addrOf(x[1]), Gas: f.hand(x[0]), Static: f.m.Static || o == STATICCALL, Depth: f.m.Depth + 1}
	rest := x[2:]
	if o == CALL {
		m.Value = wordOfBig(x[2])
		rest = x[3:]
	}
	if !word.Zero(m.Value) {
		m.Gas += 2300
	}
	m.Data = f.part(rest[0], rest[1])
	to := m.To
	if o == DELEGATECALL {
		m.Caller, m.To, m.Value = f.m.Caller, f.m.To, f.m.Value
	}
	out := f.call(m, to, o != DELEGATECALL)
	f.gas = new(big.Int).Add(f.gas, bigNum(out.Left))
	f.last = nil
	if out.Err == api.OK || out.Err == api.ErrRevert {
		f.last = out.Data
	}
	for i, b := range f.last {
		if big.NewInt(int64(i)).Cmp(rest[3]) < 0 {
			f.memory[rest[2].Int64()+int64(i)] = b
		}
	}
	return bigTruth(out.Err == api.OK)
}
