package net_test

import (
	"fmt"
	"math"
	"slices"
	"strings"
	"testing"

	"conclave/api"
	"conclave/net"
)

// far: beyond it no clock goes.
const far = 1 << 40

// made: a net of so many nodes.
func made(t *testing.T, nodes int) *net.Net {
	t.Helper()
	n, err := net.New(nodes)
	if err != api.OK || n == nil {
		t.Fatalf("New(%d): %v, %d", nodes, n, err)
	}
	return n
}

// is: an error as it should be.
func is(t *testing.T, what string, got, want api.Errno) {
	t.Helper()
	if got != want {
		t.Errorf("%s: %d, not %d", what, got, want)
	}
}

// said: anything as a text, as it should be.
func said(t *testing.T, what string, got, want any) {
	t.Helper()
	if fmt.Sprint(got) != fmt.Sprint(want) {
		t.Errorf("%s: %v, not %v", what, got, want)
	}
}

// packet: as a text.
func packet(p net.Packet) string {
	return fmt.Sprintf("%d:%d>%d=%s", p.Id, p.From, p.To, p.Data)
}

// flies: what is on its way, as texts.
func flies(t *testing.T, what string, n *net.Net, want ...string) {
	t.Helper()
	var got []string
	for _, p := range n.Flight() {
		got = append(got, packet(p))
	}
	if !slices.Equal(got, want) {
		t.Errorf("%s: on their way: %q, not %q", what, got, want)
	}
}

// set: the timers that are set and the clock, as texts.
func set(t *testing.T, what string, n *net.Net, now int, want string) {
	t.Helper()
	said(t, what+": timers", n.Timers(), want)
	said(t, what+": now", n.Now(), now)
}

// ticks: one Tick, what it tells, and where the clock stands behind it.
func ticks(t *testing.T, n *net.Net, most int, want string, now int) {
	t.Helper()
	said(t, fmt.Sprint("Tick(", most, ")"), n.Tick(most), want)
	said(t, fmt.Sprint("Now behind Tick(", most, ")"), n.Now(), now)
}

// at: a net of three nodes, whose clock stands there.
func at(t *testing.T, now int) *net.Net {
	t.Helper()
	n := made(t, 3)
	n.Tick(now)
	said(t, "the clock", n.Now(), now)
	return n
}

// The chapter's example, whole.
func TestExample(t *testing.T) {
	n := made(t, 1)
	is(t, "Set", n.Set(0, 7, 5), api.OK)
	ticks(t, n, 3, "[]", 3)
	ticks(t, n, 3, "[{0 7 5}]", 5)
}

// P1701: the edges of a number of nodes; a net begins without packets or timers, with its clock at 0.
func TestNew(t *testing.T) {
	for _, nodes := range []int{0, -1, 17, 18, api.MaxNodes + 1, 1 << 32, 1<<32 + 1, math.MinInt, math.MinInt + 1, math.MaxInt} {
		if n, err := net.New(nodes); n != nil || err != api.ErrArg {
			t.Errorf("New(%d): %v, %d", nodes, n, err)
		}
	}
	for nodes := 1; nodes <= api.MaxNodes; nodes++ {
		n := made(t, nodes)
		flies(t, "New", n)
		set(t, "New", n, 0, "[]")
		for id := -1; id < 3; id++ {
			_, err := n.Take(id)
			is(t, "Take of a new net", err, api.ErrGone)
			is(t, "Copy of a new net", n.Copy(id), api.ErrGone)
		}
		ticks(t, n, 0, "[]", 0)
		is(t, "Send to the last", n.Send(0, nodes-1, nil), api.OK)
		is(t, "Send beyond the last", n.Send(0, nodes, nil), api.ErrArg)
		is(t, "Set of the last", n.Set(nodes-1, 0, 0), api.OK)
		is(t, "Set beyond the last", n.Set(nodes, 0, 0), api.ErrArg)
	}
}

// P1701: Now goes with Tick alone, and is not changed by asking.
func TestNow(t *testing.T) {
	n := made(t, 2)
	for want := range 5 {
		said(t, "Now", n.Now(), want)
		n.Send(0, 1, []byte("x"))
		n.Copy(0)
		n.Set(0, 1, 100)
		n.Take(want)
		n.Flight()
		n.Timers()
		n.Clear(0)
		said(t, "Now, asked again", n.Now(), want)
		n.Tick(1)
	}
}

// P1701: all calls of nil, and that ErrNil goes ahead of every other error.
func TestNil(t *testing.T) {
	var n *net.Net
	for _, x := range []int{0, 1, -1, math.MinInt, math.MaxInt} {
		is(t, "Send", n.Send(x, 0, nil), api.ErrNil)
		is(t, "Send", n.Send(0, x, make([]byte, api.MaxMsg+1)), api.ErrNil)
		p, err := n.Take(x)
		is(t, "Take", err, api.ErrNil)
		said(t, "Take", packet(p), packet(net.Packet{}))
		is(t, "Copy", n.Copy(x), api.ErrNil)
		is(t, "Set", n.Set(x, x, x), api.ErrNil)
		is(t, "Set", n.Set(0, 0, 0), api.ErrNil)
		n.Clear(x)
		said(t, "Tick", len(n.Tick(x)), 0)
		said(t, "Now", n.Now(), 0)
		said(t, "Timers", len(n.Timers()), 0)
		said(t, "Flight", len(n.Flight()), 0)
	}
}

// Rule 5: two nets share nothing.
func TestApart(t *testing.T) {
	a, b := made(t, 2), made(t, 3)
	a.Send(0, 1, []byte("a"))
	a.Send(0, 1, []byte("b"))
	a.Set(1, 5, 9)
	a.Tick(4)
	flies(t, "the other", b)
	set(t, "the other", b, 0, "[]")
	is(t, "Take of the other's", b.Copy(0), api.ErrGone)
	b.Send(2, 0, []byte("c"))
	b.Set(2, 6, 1)
	b.Clear(1)
	ticks(t, b, 3, "[{2 6 1}]", 1)
	b.Take(0)
	flies(t, "the first", a, "0:0>1=a", "1:0>1=b")
	set(t, "the first", a, 4, "[{1 5 9}]")
	flies(t, "the other", b)
	set(t, "the other", b, 1, "[]")
}

// long: data of so many bytes, not all the same.
func long(n int) []byte {
	return []byte(strings.Repeat("0123456789abc", n/13+1)[:n])
}
