package state_test

import (
	"fmt"
	"math"
	"testing"

	"conclave/api"
	"conclave/state"
)

// P1103: each set to a value, to another, to the one it has, to zero, and once more.
func TestSets(t *testing.T) {
	lay := func(s face) {
		s.SetBalance(addr(1), num(4))
		s.SetNonce(addr(1), 4)
		s.SetCode(addr(1), []byte{4})
		s.SetSlot(addr(1), num(1), num(4))
		s.SetNonce(addr(2), 1) // alone, as addr(3) has nothing
	}
	p := newPlain()
	lay(p)
	for kind, s := range both(t, lay) {
		p := map[string]*plain{"made": p.copy(), "opened": p.opened()}[kind]
		for _, a := range []api.Addr{addr(1), addr(2), addr(3)} {
			for i, n := range []uint64{1, 2, 2, 0, 0, 5, 1<<64 - 1, 5} {
				code := []byte{byte(n), byte(n)}[:min(n, 2)]
				for j, set := range []func(x face){
					func(x face) { x.SetBalance(a, num(n)) },
					func(x face) { x.SetNonce(a, n) },
					func(x face) { x.SetCode(a, code) },
					func(x face) { x.SetSlot(a, num(1), num(n)) },
				} {
					set(s)
					set(p)
					what := fmt.Sprintf("%s: %x, value %d, set %d", kind, a, i, j)
					same(t, what, s, p, []api.Addr{addr(1), addr(2), addr(3)}, []api.Word{num(1), num(2)})
				}
			}
		}
	}
}

// P1103: slots of an account that is empty are there ahead of the next Begin, and gone behind it.
func TestSlotsOfEmpty(t *testing.T) {
	a := addr(1)
	for name, empties := range map[string]func(s face){
		"never set": func(face) {},
		"balance":   func(s face) { s.SetBalance(a, num(0)) },
		"all sets": func(s face) {
			s.SetNonce(a, 0)
			s.SetCode(a, nil)
			s.SetBalance(a, num(0))
		},
	} {
		for kind, s := range both(t, func(s face) {
			if name != "never set" {
				s.SetBalance(a, num(5))
				s.SetSlot(a, num(1), num(6))
				s.SetSlot(a, num(2), num(7))
			}
		}) {
			what := name + ", " + kind
			s.SetSlot(a, num(3), num(8))
			empties(s)
			s.SetSlot(a, num(4), num(9))
			old := map[bool][2]api.Word{false: {num(6), num(7)}, true: {}}[name == "never set"]
			is(t, what+": ahead of Begin", fmt.Sprint(s.Exists(a), s.Slot(a, num(1)), s.Slot(a, num(2)), s.Slot(a, num(3)), s.Slot(a, num(4))), fmt.Sprint(false, old[0], old[1], num(8), num(9)))
			sameRoot(t, what+": ahead of Begin", s, newPlain())
			is(t, what+": behind Root", s.Slot(a, num(4)), num(9))
			s.Begin()
			for n := range uint64(5) {
				is(t, what+": behind Begin", fmt.Sprint(s.Slot(a, num(n)), s.Original(a, num(n))), fmt.Sprint(num(0), num(0)))
			}
			s.SetBalance(a, num(1))
			s.SetSlot(a, num(2), num(3))
			p := newPlain()
			p.SetBalance(a, num(1))
			p.SetSlot(a, num(2), num(3))
			for n := range uint64(5) {
				is(t, what+": not empty any more", s.Slot(a, num(n)), p.Slot(a, num(n)))
			}
			sameRoot(t, what+": not empty any more", s, p)
		}
	}
}

// P1103: an account that becomes empty and then is not any more ahead of Begin keeps its slots, those set ahead of that and between.
func TestEmptyBetween(t *testing.T) {
	a := addr(1)
	for kind, s := range both(t, func(s face) {
		s.SetBalance(a, num(5))
		s.SetSlot(a, num(1), num(6))
		s.SetSlot(a, num(2), num(7))
	}) {
		s.SetSlot(a, num(2), num(0))
		s.SetSlot(a, num(3), num(8))
		s.SetBalance(a, num(0))
		s.SetSlot(a, num(4), num(9))
		s.Root()
		s.SetNonce(a, 1)
		p := newPlain()
		p.SetNonce(a, 1)
		for k, v := range map[uint64]uint64{1: 6, 3: 8, 4: 9} {
			p.SetSlot(a, num(k), num(v))
		}
		for range 2 {
			for n := range uint64(6) {
				is(t, kind, s.Slot(a, num(n)), p.Slot(a, num(n)))
			}
			sameRoot(t, kind, s, p)
			s.Begin()
		}
	}
}

// P1103: accounts that are not empty keep their slots at Begin, whichever thing they have.
func TestBeginKeeps(t *testing.T) {
	for kind, s := range both(t, func(s face) {
		s.SetBalance(addr(1), num(1))
		s.SetNonce(addr(2), 1)
		s.SetCode(addr(3), []byte{1})
		for c := range byte(4) {
			s.SetSlot(addr(c), num(1), num(2))
		}
	}) {
		for range 3 {
			s.Begin()
			for c := range byte(4) {
				is(t, kind, s.Slot(addr(c), num(1)), num(uint64(min(c, 1)*2)))
			}
			s.SetNonce(addr(0), 0)
			s.SetBalance(addr(1), num(3))
		}
		is(t, kind, fmt.Sprint(s.Balance(addr(1)), s.Nonce(addr(2)), s.Code(addr(3))), fmt.Sprint(num(3), 1, []byte{1}))
	}
}

// P1103: Warm and WarmSlot the first time, the second time, behind Revert, behind Begin; each account and each slot for itself.
func TestWarm(t *testing.T) {
	s := fresh()
	ask := func() string {
		return fmt.Sprint(s.Warm(addr(1)), s.Warm(addr(2)), s.WarmSlot(addr(1), num(1)), s.WarmSlot(addr(1), num(2)), s.WarmSlot(addr(2), num(1)))
	}
	const cold, warm = "false false false false false", "true true true true true"
	is(t, "at first", ask(), cold)
	is(t, "again", ask(), warm)
	s.Begin()
	id := s.Snapshot()
	is(t, "behind Begin", ask(), cold)
	is(t, "behind Begin, again", ask(), warm)
	is(t, "Revert", s.Revert(id), api.OK)
	is(t, "behind Revert", ask(), cold)
	id = s.Snapshot()
	is(t, "warm ahead of a snapshot", ask(), warm)
	is(t, "Revert", s.Revert(id), api.OK)
	is(t, "behind Revert of nothing", ask(), warm)
	s.Root()
	is(t, "behind Root", ask(), warm)
	is(t, "Exists", fmt.Sprint(s.Exists(addr(1)), s.Err()), fmt.Sprint(false, api.OK))
	s.Begin()
	s.WarmSlot(addr(1), num(1))
	is(t, "an account whose slot is warm", s.Warm(addr(1)), false)
	s.Begin()
	s.Warm(addr(1))
	is(t, "a slot whose account is warm", s.WarmSlot(addr(1), num(1)), false)
	s.SetSlot(addr(2), num(1), num(1))
	s.Slot(addr(2), num(1))
	is(t, "what was just set and looked at", fmt.Sprint(s.Warm(addr(2)), s.WarmSlot(addr(2), num(1))), "false false")
}

// P1103: warm is not what the tree tells: nothing is wanted.
func TestWarmWantsNothing(t *testing.T) {
	s := state.Open(api.Hash{1}, nil)
	is(t, "Warm", fmt.Sprint(s.Warm(addr(1)), s.WarmSlot(addr(1), num(1)), s.Warm(addr(1)), s.WarmSlot(addr(1), num(1))), "false false true true")
	s.AddRefund(1)
	s.Log(api.Log{})
	is(t, "Revert", s.Revert(s.Snapshot()), api.OK)
	s.Begin()
	is(t, "Err", s.Err(), api.OK)
}

// P1103: refunds of either sign.
func TestRefund(t *testing.T) {
	s := fresh()
	sum := int64(0)
	for _, n := range []int64{4800, -4800, 0, -19900, 2800, 1, -1, math.MaxInt32, math.MinInt32} {
		s.AddRefund(n)
		sum += n
		is(t, "Refund", s.Refund(), sum)
	}
	id := s.Snapshot()
	s.AddRefund(77)
	s.AddRefund(-7)
	is(t, "Refund", s.Refund(), sum+70)
	s.Root()
	is(t, "behind Root", s.Refund(), sum+70)
	is(t, "Revert", s.Revert(id), api.OK)
	is(t, "behind Revert", s.Refund(), sum)
	s.Begin()
	is(t, "behind Begin", s.Refund(), 0)
	for _, n := range []int64{math.MaxInt64, math.MaxInt64, -math.MaxInt64} {
		s.AddRefund(n)
	}
	is(t, "a sum that is an int64 again", s.Refund(), int64(math.MaxInt64))
	s.Begin()
	s.AddRefund(math.MinInt64)
	is(t, "the least", s.Refund(), int64(math.MinInt64))
}

// P1103: logs in order, with topics and data of any length.
func TestLogs(t *testing.T) {
	s := fresh()
	is(t, "no logs", len(s.Logs()), 0)
	var want []api.Log
	for n := range 9 {
		l := api.Log{Addr: addr(byte(n)), Topics: make([]api.Word, n%6), Data: make([]byte, n*n*n*100)}
		for i := range l.Topics {
			l.Topics[i] = num(uint64(n*10 + i))
		}
		for i := range l.Data {
			l.Data[i] = byte(n + i)
		}
		s.Log(l)
		want = append(want, l)
		if fmt.Sprint(s.Logs()) != fmt.Sprint(want) {
			t.Errorf("%d logs: %.300v", n+1, s.Logs())
		}
	}
	id := s.Snapshot()
	s.Log(want[0])
	s.Log(want[1])
	is(t, "behind a snapshot", len(s.Logs()), len(want)+2)
	is(t, "Revert", s.Revert(id), api.OK)
	s.Root()
	if fmt.Sprint(s.Logs()) != fmt.Sprint(want) {
		t.Errorf("behind Revert: %.300v", s.Logs())
	}
	s.Log(want[2])
	if fmt.Sprint(s.Logs()) != fmt.Sprint(append(want, want[2])) {
		t.Errorf("behind Revert and Log: %.300v", s.Logs())
	}
	s.Begin()
	is(t, "behind Begin", len(s.Logs()), 0)
}
