package state_test

import (
	"fmt"
	"math/rand/v2"
	"strings"
	"testing"

	"conclave/api"
	"conclave/state"
	"conclave/trie"
)

// call: one of a face's, as a text that tells what it is, and what it answers.
type call struct {
	name string
	do   func(s face) string
}

func nothing(f func(s face)) func(s face) string {
	return func(s face) string { f(s); return "" }
}

// drawCall: of few accounts, slots and values, so that they meet.
func drawCall(r *rand.Rand) call {
	a := addr(byte(r.IntN(3)))
	k := num(r.Uint64N(3))
	n := r.Uint64N(3)
	v := []api.Word{num(0), num(0), num(n), top()}[r.IntN(4)]
	code := strings.Repeat("c", []int{0, 0, int(n), 40}[r.IntN(4)])
	id := r.IntN(6) - 1
	l := []call{
		{"Exists", func(s face) string { return fmt.Sprint(s.Exists(a)) }},
		{"Balance", func(s face) string { return fmt.Sprint(s.Balance(a)) }},
		{"Nonce", func(s face) string { return fmt.Sprint(s.Nonce(a)) }},
		{"Code", func(s face) string { return fmt.Sprint(s.Code(a)) }},
		{"CodeHash", func(s face) string { return fmt.Sprint(s.CodeHash(a)) }},
		{"Slot", func(s face) string { return fmt.Sprint(s.Slot(a, k)) }},
		{"Original", func(s face) string { return fmt.Sprint(s.Original(a, k)) }},
		{"SetBalance", nothing(func(s face) { s.SetBalance(a, v) })},
		{"SetNonce", nothing(func(s face) { s.SetNonce(a, n/2) })},
		{"SetCode", nothing(func(s face) { s.SetCode(a, []byte(code)) })},
		{"SetSlot", nothing(func(s face) { s.SetSlot(a, k, v) })},
		{"SetSlot", nothing(func(s face) { s.SetSlot(a, k, num(n)) })},
		{"Snapshot", func(s face) string { return fmt.Sprint(s.Snapshot()) }},
		{"Snapshot", func(s face) string { return fmt.Sprint(s.Snapshot()) }},
		{"Revert", func(s face) string { return fmt.Sprint(int(s.Revert(id))) }},
		{"Warm", func(s face) string { return fmt.Sprint(s.Warm(a)) }},
		{"WarmSlot", func(s face) string { return fmt.Sprint(s.WarmSlot(a, k)) }},
		{"Refund", func(s face) string { return fmt.Sprint(s.Refund()) }},
		{"AddRefund", nothing(func(s face) { s.AddRefund(int64(n)*4800 - 5000) })},
		{"Log", nothing(func(s face) { s.Log(api.Log{Addr: a, Topics: []api.Word{k, v}[:n], Data: []byte(code)}) })},
		{"Logs", func(s face) string { return fmt.Sprint(s.Logs()) }},
		{"Root", func(s face) string { h, _ := s.Root(); return fmt.Sprint(h) }},
		{"Begin", nothing(face.Begin)},
	}
	at := r.IntN(len(l))
	if l[at].name == "Begin" && r.IntN(2) == 0 { // so that transactions grow
		at = 0
	}
	return l[at]
}

// P1101 to P1105: drawn calls, held against the chapter's words; now and then the state is opened again over what was told.
func TestDrawn(t *testing.T) {
	r := rand.New(rand.NewPCG(11, 4))
	met := map[string]int{}
	few := []api.Addr{addr(0), addr(1), addr(2)}
	ks := []api.Word{num(0), num(1), num(2)}
	for round := range 60 {
		st := newStore()
		s, p := state.Open(trie.Empty(), st.tell), newPlain()
		for i := range 250 {
			x := drawCall(r)
			what := fmt.Sprintf("round %d, call %d: %s", round, i, x.name)
			got, want := x.do(s), x.do(p)
			is(t, what, got, want)
			met[x.name]++
			if x.name == "Revert" {
				met["Revert "+want]++
			}
			if r.IntN(8) == 0 {
				same(t, what, s, p, few, ks)
			}
			if r.IntN(60) == 0 {
				root, l := s.Root()
				st.add(t, l)
				s, p = state.Open(root, st.tell), p.opened()
				same(t, what+", opened", s, p, few, ks)
				met["opened"]++
			}
			if t.Failed() {
				return
			}
		}
	}
	for _, want := range []string{"Exists", "Original", "Begin", "Warm", "Root", "opened", "Revert 0", "Revert 1"} {
		if met[want] < 100 {
			t.Errorf("too few draws met %q: %v", want, met)
		}
	}
}

// P1102, P1103, P1105: all rows of five calls that bear on what an account with a slot is and was, over a state that has it.
func TestRows(t *testing.T) {
	a, k := addr(1), num(1)
	l := []func(s face){
		func(s face) { s.SetBalance(a, num(0)) },
		func(s face) { s.SetBalance(a, num(2)) },
		func(s face) { s.SetSlot(a, k, num(0)) },
		func(s face) { s.SetSlot(a, k, num(3)) },
		func(s face) { s.Snapshot() },
		func(s face) { s.Revert(0) },
		face.Begin,
	}
	base := newPlain()
	base.SetBalance(a, num(2))
	base.SetSlot(a, k, num(4))
	root, st := storeOf(base)
	const most = 5
	for row := range power(len(l), most) {
		s, p := state.Open(root, st.tell), base.opened()
		rest := row
		for range most {
			l[rest%len(l)](s)
			l[rest%len(l)](p)
			rest /= len(l)
		}
		same(t, fmt.Sprint("row ", row), s, p, []api.Addr{a}, []api.Word{k})
		s.Begin()
		p.Begin()
		s.SetNonce(a, 1)
		p.SetNonce(a, 1)
		same(t, fmt.Sprint("row ", row, ", then a nonce"), s, p, []api.Addr{a}, []api.Word{k})
		if t.Failed() {
			return
		}
	}
}

func power(of, times int) int {
	n := 1
	for range times {
		n *= of
	}
	return n
}
