package net_test

import (
	"bytes"
	"fmt"
	"math"
	"testing"

	"conclave/api"
	"conclave/net"
)

// takes: a packet of a number, as a text, with the error; beside one it is zero.
func takes(t *testing.T, n *net.Net, id int, want string, wrong api.Errno) {
	t.Helper()
	p, err := n.Take(id)
	is(t, fmt.Sprint("Take(", id, ")"), err, wrong)
	if wrong != api.OK {
		want = packet(net.Packet{})
	}
	said(t, fmt.Sprint("Take(", id, ")"), packet(p), want)
	if err != api.OK && p.Data != nil {
		t.Errorf("Take(%d): data beside an error", id)
	}
}

// P1702: from and to at the edges of what is a node, each with each.
func TestSendNodes(t *testing.T) {
	for _, nodes := range []int{1, 2, 3, 15, 16} {
		n := made(t, nodes)
		sent := 0
		edges := []int{0, nodes - 1, nodes, nodes + 1, -1, -2, 15, 16, 1 << 32, -1 << 32, math.MinInt, math.MaxInt}
		for _, from := range edges {
			for _, to := range edges {
				want := api.ErrArg
				if from >= 0 && from < nodes && to >= 0 && to < nodes {
					want = api.OK
				}
				is(t, fmt.Sprint("Send from ", from, " to ", to, " of ", nodes), n.Send(from, to, []byte("x")), want)
				if want == api.OK {
					all := n.Flight()
					said(t, "the last of Flight", packet(all[len(all)-1]), fmt.Sprint(sent, ":", from, ">", to, "=x"))
					sent++
				}
				said(t, "Flight", len(n.Flight()), sent)
			}
		}
	}
}

// P1702: data of none, of a byte, of MaxMsg bytes, and of more.
func TestSendData(t *testing.T) {
	n := made(t, 2)
	id := 0
	for _, size := range []int{0, 1, 2, 65535, api.MaxMsg, 65537, 70000, 1 << 20} {
		want := api.OK
		if size > 65536 {
			want = api.ErrBig
		}
		is(t, fmt.Sprint("Send of ", size), n.Send(1, 0, long(size)), want)
		if want != api.OK {
			flies(t, "too much", n)
			continue
		}
		said(t, "Flight", len(n.Flight()), 1)
		if f := n.Flight(); !bytes.Equal(f[0].Data, long(size)) {
			t.Errorf("Flight: other data of %d", size)
		}
		p, err := n.Take(id)
		is(t, "Take", err, api.OK)
		if p.Id != id || p.From != 1 || p.To != 0 || !bytes.Equal(p.Data, long(size)) {
			t.Errorf("Take of %d bytes: %d, %d, %d, %d bytes", size, p.Id, p.From, p.To, len(p.Data))
		}
		id++
	}
	is(t, "Send of nil", n.Send(0, 0, nil), api.OK)
	is(t, "Send of bytes that are 0", n.Send(0, 1, []byte{0, 0}), api.OK)
	flies(t, "at last", n, "5:0>0=", "6:0>1=\x00\x00")
}

// P1702: a node that is none goes ahead of what is too much; nothing has changed behind an error.
func TestSendOrder(t *testing.T) {
	n := made(t, 2)
	more := long(api.MaxMsg + 1)
	unchanged := func(what string) {
		t.Helper()
		is(t, what+", too much", n.Send(0, 1, more), api.ErrBig)
		for _, none := range []int{-1, 2, math.MaxInt} {
			is(t, what+", none, too much", n.Send(none, 1, more), api.ErrArg)
			is(t, what+", to none, too much", n.Send(0, none, more), api.ErrArg)
			is(t, what+", none", n.Send(none, none, nil), api.ErrArg)
		}
	}
	unchanged("empty")
	flies(t, "empty", n)
	is(t, "Send", n.Send(0, 1, []byte("x")), api.OK)
	unchanged("one")
	flies(t, "one", n, "0:0>1=x")
	for range api.MaxFlight - 1 {
		is(t, "Send", n.Send(1, 0, nil), api.OK)
	}
	is(t, "full", n.Send(0, 1, nil), api.ErrBig)
	unchanged("full")
	said(t, "Flight", len(n.Flight()), 4096)
	takes(t, n, 0, "0:0>1=x", api.OK)
	is(t, "behind all of them", n.Send(1, 1, []byte("y")), api.OK)
	all := n.Flight()
	said(t, "numbers that errors took", packet(all[len(all)-1]), "4096:1>1=y")
}

// full: a net with so many packets on their way, of which the numbers are the data.
func full(t *testing.T, packets int) *net.Net {
	t.Helper()
	n := made(t, 2)
	for id := range packets {
		is(t, "Send", n.Send(id%2, 0, fmt.Append(nil, id)), api.OK)
	}
	said(t, "Flight", len(n.Flight()), packets)
	return n
}

// P1702: one short of MaxFlight, and there: Send and Copy, the order of Copy's errors, and that a place which is free is taken again.
func TestFull(t *testing.T) {
	for _, copied := range []bool{false, true} {
		n := full(t, 4095)
		more := func(id int) api.Errno {
			if copied {
				return n.Copy(id)
			}
			return n.Send(1, 0, fmt.Append(nil, id))
		}
		is(t, "the last place", more(4093), api.OK)
		is(t, "no place", more(1), api.ErrBig)
		is(t, "Send, no place", n.Send(0, 0, nil), api.ErrBig)
		for _, id := range []int{0, 2000, 4094, 4095} {
			is(t, "Copy, no place", n.Copy(id), api.ErrBig)
		}
		for _, id := range []int{-1, 4096, 4097, math.MinInt, math.MaxInt} {
			is(t, "Copy of none, no place", n.Copy(id), api.ErrGone)
		}
		said(t, "Flight", len(n.Flight()), 4096)
		takes(t, n, 2001, "2001:1>0=2001", api.OK)
		is(t, "Copy of one that was, a place", n.Copy(2001), api.ErrGone)
		is(t, "a place again", more(3), api.OK)
		is(t, "no place again", more(3), api.ErrBig)
		is(t, "Copy of one that was, no place", n.Copy(2001), api.ErrGone)
		takes(t, n, 4096, "4096:1>0=3", api.OK)
		takes(t, n, 4095, "4095:1>0=4093", api.OK)
		takes(t, n, 3, "3:1>0=3", api.OK)
		for id, p := range n.Flight() {
			if id >= 3 {
				id++
			}
			if id >= 2001 {
				id++
			}
			if packet(p) != fmt.Sprint(id, ":", id%2, ">0=", id) {
				t.Fatalf("Flight: %s, not %d", packet(p), id)
			}
		}
	}
}

// P1702: numbers rise by one as packets are sent and copied in turn, with some taken between; none comes again.
func TestNumbers(t *testing.T) {
	n := made(t, 4)
	is(t, "Send", n.Send(0, 1, []byte("a")), api.OK)
	is(t, "Copy", n.Copy(0), api.OK)
	is(t, "Send", n.Send(2, 3, []byte("b")), api.OK)
	flies(t, "sent and copied", n, "0:0>1=a", "1:0>1=a", "2:2>3=b")
	takes(t, n, 2, "2:2>3=b", api.OK)
	is(t, "Copy of a copy", n.Copy(1), api.OK)
	flies(t, "the last taken", n, "0:0>1=a", "1:0>1=a", "3:0>1=a")
	takes(t, n, 0, "0:0>1=a", api.OK)
	is(t, "Copy of one that was", n.Copy(0), api.ErrGone)
	is(t, "Copy of one that was", n.Copy(2), api.ErrGone)
	is(t, "Send", n.Send(3, 3, nil), api.OK)
	is(t, "Send", n.Send(3, 4, nil), api.ErrArg)
	is(t, "Copy", n.Copy(4), api.OK)
	flies(t, "the first taken", n, "1:0>1=a", "3:0>1=a", "4:3>3=", "5:3>3=")
	for _, id := range []int{3, 5, 1, 4} {
		_, err := n.Take(id)
		is(t, "Take", err, api.OK)
	}
	flies(t, "all taken", n)
	is(t, "Send", n.Send(1, 2, []byte("c")), api.OK)
	flies(t, "behind all", n, "6:1>2=c")
}

// P1702: Take and Copy of numbers that are on their way, that were, that come next, and at the ends of an int.
func TestTakeCopy(t *testing.T) {
	none := []int{-1, -5, 1, 5, 6, 100, 1 << 32, math.MinInt, math.MaxInt, math.MinInt + 1, math.MaxInt - 1}
	n := made(t, 2)
	for id := range 5 {
		is(t, "Send", n.Send(0, 1, fmt.Append(nil, id)), api.OK)
	}
	takes(t, n, 1, "1:0>1=1", api.OK)
	left := []string{"0:0>1=0", "2:0>1=2", "3:0>1=3", "4:0>1=4"}
	for _, id := range none {
		takes(t, n, id, "", api.ErrGone)
		is(t, fmt.Sprint("Copy(", id, ")"), n.Copy(id), api.ErrGone)
		flies(t, fmt.Sprint("behind ", id), n, left...)
	}
	takes(t, n, 3, "3:0>1=3", api.OK)
	takes(t, n, 3, "", api.ErrGone)
	takes(t, n, 4, "4:0>1=4", api.OK)
	takes(t, n, 0, "0:0>1=0", api.OK)
	is(t, "Copy", n.Copy(2), api.OK)
	takes(t, n, 2, "2:0>1=2", api.OK)
	flies(t, "the copy alone", n, "5:0>1=2")
	takes(t, n, 2, "", api.ErrGone)
	takes(t, n, 5, "5:0>1=2", api.OK)
	for _, id := range append(none, 0, 2, 3, 4) {
		takes(t, n, id, "", api.ErrGone)
		is(t, fmt.Sprint("Copy(", id, ")"), n.Copy(id), api.ErrGone)
	}
	flies(t, "none left", n)
	is(t, "Send", n.Send(1, 1, nil), api.OK)
	flies(t, "the next", n, "6:1>1=")
}

// P1702: packets and timers do not touch each other.
func TestPacketsStay(t *testing.T) {
	n := made(t, 2)
	n.Send(0, 1, []byte("a"))
	n.Set(0, 1, 2)
	n.Set(1, 1, 3)
	n.Clear(1)
	n.Tick(9)
	n.Tick(far)
	flies(t, "behind Tick and Clear", n, "0:0>1=a")
	n.Set(0, 0, 0)
	n.Take(0)
	set(t, "behind Take", n, far, "[{0 0 1099511627776}]")
}
