package state_test

import (
	"fmt"
	"math"
	"reflect"
	"testing"

	"conclave/api"
)

// P1103: Snapshot's numbers from 0 on since Begin.
func TestSnapshotNumbers(t *testing.T) {
	s := fresh()
	for range 2 {
		for n := range 5 {
			is(t, "Snapshot", s.Snapshot(), n)
			s.AddRefund(1)
		}
		s.Root()
		is(t, "Snapshot behind Root", s.Snapshot(), 5)
		is(t, "Revert", s.Revert(2), api.OK)
		is(t, "Snapshot behind Revert: all is as it was then", s.Snapshot(), 2)
		is(t, "Snapshot", s.Snapshot(), 3)
		s.Begin()
	}
}

// P1103: Revert to snapshots that there are, are not any more, and never were.
func TestRevertNumbers(t *testing.T) {
	s := fresh()
	wrong := func(what string, ids ...int) {
		t.Helper()
		before := s.Refund()
		for _, id := range append(ids, -1, math.MinInt, math.MaxInt) {
			is(t, fmt.Sprintf("%s: Revert(%d)", what, id), s.Revert(id), api.ErrArg)
		}
		is(t, what+": Refund", s.Refund(), before)
	}
	wrong("no snapshots", 0, 1)
	for n := range int64(5) {
		s.Snapshot()
		s.AddRefund(1 << n)
	}
	wrong("5 snapshots", 5, 6)
	is(t, "the last one", s.Revert(4), api.OK)
	is(t, "Refund", s.Refund(), 1+2+4+8)
	wrong("the same twice", 4, 5)
	is(t, "an elder one", s.Revert(1), api.OK)
	is(t, "Refund", s.Refund(), 1)
	wrong("elder than those behind it", 1, 2, 3, 4)
	is(t, "the first", s.Revert(0), api.OK)
	is(t, "Refund", s.Refund(), 0)
	wrong("none left", 0, 1)
	is(t, "Snapshot", s.Snapshot(), 0)
	s.AddRefund(7)
	s.Begin()
	wrong("behind Begin", 0, 1)
}

// busy: all that can be set or touched, by number; each does something that is to be seen.
func busy() []func(s face) {
	a, b, c := addr(1), addr(2), addr(3)
	return []func(s face){
		func(s face) { s.SetBalance(a, num(50)) },
		func(s face) { s.SetBalance(b, num(51)) },
		func(s face) { s.SetNonce(a, 52) },
		func(s face) { s.SetNonce(c, 53) },
		func(s face) { s.SetCode(a, []byte("other")) },
		func(s face) { s.SetCode(b, []byte("other")) },
		func(s face) { s.SetCode(a, nil) },
		func(s face) { s.SetSlot(a, num(1), num(54)) },
		func(s face) { s.SetSlot(a, num(1), num(0)) },
		func(s face) { s.SetSlot(b, num(2), num(55)) },
		func(s face) { s.SetBalance(a, num(0)); s.SetNonce(a, 0); s.SetCode(a, nil) },
		func(s face) { s.SetSlot(a, num(3), num(56)) },
		func(s face) { s.Warm(a) },
		func(s face) { s.Warm(c) },
		func(s face) { s.WarmSlot(a, num(1)) },
		func(s face) { s.WarmSlot(c, num(1)) },
		func(s face) { s.AddRefund(57) },
		func(s face) { s.Log(api.Log{Addr: a, Topics: []api.Word{num(1)}, Data: []byte{1}}) },
		func(s face) { s.SetNonce(a, 58) },
		func(s face) { s.Snapshot() },
	}
}

// P1105: behind Revert all is as it was at the snapshot, whatever was done between: each thing alone, each two, and all; also with a snapshot within.
func TestRevertTakesBack(t *testing.T) {
	lay := func(s face) {
		s.SetBalance(addr(1), num(4))
		s.SetNonce(addr(1), 5)
		s.SetCode(addr(1), []byte("code"))
		s.SetSlot(addr(1), num(1), num(6))
		s.SetNonce(addr(2), 7)
		s.Begin()
		s.SetSlot(addr(1), num(2), num(7))
		s.Warm(addr(2))
		s.WarmSlot(addr(2), num(1))
		s.AddRefund(8)
		s.Log(api.Log{Data: []byte{9}})
	}
	addrs := []api.Addr{addr(1), addr(2), addr(3)}
	keys := []api.Word{num(1), num(2), num(3)}
	all := busy()
	try := func(what string, doing ...func(s face)) {
		t.Helper()
		s, p := fresh(), newPlain()
		lay(s)
		lay(p)
		id := s.Snapshot()
		for _, do := range doing {
			do(s)
		}
		is(t, what+": Revert", s.Revert(id), api.OK)
		same(t, what, s, p, addrs, keys)
		for _, a := range addrs {
			is(t, what+": Warm", s.Warm(a), p.Warm(a))
			for _, k := range keys {
				is(t, what+": WarmSlot", s.WarmSlot(a, k), p.WarmSlot(a, k))
			}
		}
		is(t, what+": Snapshot", s.Snapshot(), p.Snapshot())
	}
	for i, one := range all {
		p, seen := newPlain(), newPlain()
		lay(p)
		lay(seen)
		one(seen)
		if reflect.DeepEqual(p, seen) {
			t.Errorf("thing %d does nothing", i)
		}
		for j, two := range all {
			try(fmt.Sprint("things ", i, " and ", j), one, two)
		}
	}
	try("nothing")
	try("all", all...)
	try("all twice", append(all, all...)...)
}
