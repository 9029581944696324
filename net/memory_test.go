package net_test

import (
	"fmt"
	"testing"

	"conclave/api"
	"conclave/net"
)

// overwrite: all bytes of a list, its spare room too.
func overwrite(b []byte) {
	b = b[:cap(b)]
	for i := range b {
		b[i] = '-'
	}
}

// overwriteAll: packets and their data, spare room too.
func overwriteAll(l []net.Packet) {
	for i := range l {
		overwrite(l[i].Data)
	}
	l = l[:cap(l)]
	for i := range l {
		l[i] = net.Packet{Id: -1, From: -1, To: -1, Data: []byte("-")}
	}
}

// overwriteTimers: all of a list, its spare room too.
func overwriteTimers(l []net.Timer) {
	l = l[:cap(l)]
	for i := range l {
		l[i] = net.Timer{Node: -1, Tag: -1, At: -1}
	}
}

// Rule 4: data that are sent are neither changed nor kept, their spare room neither.
func TestHandedIn(t *testing.T) {
	n := made(t, 2)
	data := []byte("abcdefgh")
	is(t, "Send", n.Send(0, 1, data[:3]), api.OK)
	is(t, "Send", n.Send(1, 0, data[3:5]), api.OK)
	is(t, "Send", n.Send(1, 0, data[:0]), api.OK)
	is(t, "Copy", n.Copy(0), api.OK)
	all := n.Flight()
	for i := range all {
		_ = append(all[i].Data, "++++"...)
	}
	p, _ := n.Take(1)
	_ = append(p.Data, "++++"...)
	said(t, "handed in", string(data), "abcdefgh")
	overwrite(data)
	flies(t, "overwritten", n, "0:0>1=abc", "2:1>0=", "3:0>1=abc")
	said(t, "taken", packet(p), "1:1>0=de")
}

// Rule 4: what Flight hands out is new memory, and so are the data of each packet, spare room too.
func TestFlightHandedOut(t *testing.T) {
	n := made(t, 2)
	n.Send(0, 1, []byte("abc"))
	n.Copy(0)
	n.Send(1, 0, []byte("de"))
	n.Send(1, 0, nil)
	want := []string{"0:0>1=abc", "1:0>1=abc", "2:1>0=de", "3:1>0="}
	first, second := n.Flight(), n.Flight()
	overwrite(first[0].Data)
	said(t, "another of the same answer", packet(first[1]), want[1])
	overwriteAll(first)
	_ = append(first, net.Packet{})
	flies(t, "overwritten", n, want...)
	for i, p := range second {
		said(t, "the other answer", packet(p), want[i])
	}
	n.Send(0, 0, []byte("more"))
	n.Take(0)
	n.Take(2)
	said(t, "an answer, later on", packet(second[0])+packet(second[2]), want[0]+want[2])
	overwriteAll(second)
	flies(t, "overwritten again", n, want[1], want[3], "4:0>0=more")
}

// Rule 4: what Take hands out is new memory: not that of a copy, nor of an answer of Flight.
func TestTakeHandedOut(t *testing.T) {
	for _, order := range [][]int{{0, 1, 2}, {1, 0, 2}, {2, 1, 0}} {
		n := made(t, 2)
		n.Send(0, 1, []byte("abc"))
		n.Copy(0)
		n.Copy(1)
		seen := n.Flight()
		var taken []net.Packet
		for _, id := range order {
			p, err := n.Take(id)
			is(t, "Take", err, api.OK)
			said(t, "Take", packet(p), fmt.Sprint(id, ":0>1=abc"))
			overwrite(p.Data)
			_ = append(p.Data, "++++"...)
			taken = append(taken, p)
		}
		for i, p := range seen {
			said(t, "an answer of Flight", packet(p), fmt.Sprint(i, ":0>1=abc"))
		}
		overwriteAll(seen)
		n.Send(1, 0, []byte("later"))
		for _, p := range taken {
			said(t, "taken, later on", string(p.Data), "---")
		}
	}
}

// Rule 4: what Timers and Tick hand out is new memory, spare room too.
func TestTimersHandedOut(t *testing.T) {
	n := made(t, 2)
	for i, delay := range []int{3, 1, 3, 1, 7} {
		is(t, "Set", n.Set(i%2, i, delay), api.OK)
	}
	all := "[{1 1 1} {1 3 1} {0 0 3} {0 2 3} {0 4 7}]"
	first, second := n.Timers(), n.Timers()
	overwriteTimers(first)
	_ = append(first, net.Timer{})
	set(t, "overwritten", n, 0, all)
	said(t, "the other answer", second, all)
	told := n.Tick(1)
	_ = append(told, net.Timer{Node: 5, Tag: 5, At: 5})
	set(t, "behind what was told", n, 1, "[{0 0 3} {0 2 3} {0 4 7}]")
	overwriteTimers(told)
	set(t, "overwritten", n, 1, "[{0 0 3} {0 2 3} {0 4 7}]")
	told = n.Tick(2)
	n.Set(1, 5, 0)
	n.Set(1, 6, 1)
	n.Clear(0)
	said(t, "told, later on", told, "[{0 0 3} {0 2 3}]")
	said(t, "an answer, later on", second, all)
	overwriteTimers(second)
	set(t, "at last", n, 3, "[{1 5 3} {1 6 4}]")
}

// Rule 4: lists without an element have no memory of the net's either.
func TestNoneHandedOut(t *testing.T) {
	n := made(t, 2)
	n.Send(0, 1, []byte("abc"))
	n.Take(0)
	n.Set(0, 1, 2)
	n.Tick(2)
	overwriteAll(n.Flight())
	overwriteTimers(n.Timers())
	overwriteTimers(n.Tick(0))
	_ = append(n.Flight(), net.Packet{Id: 9})
	_ = append(n.Timers(), net.Timer{Tag: 9})
	n.Send(1, 0, []byte("d"))
	n.Set(1, 3, 4)
	flies(t, "at last", n, "1:1>0=d")
	set(t, "at last", n, 2, "[{1 3 6}]")
}
