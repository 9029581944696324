package net

import (
	"bytes"
	"cmp"
	"slices"

	"conclave/api"
)

// Send: data go on their way.
func (n *Net) Send(from, to int, data []byte) api.Errno {
	switch {
	case n == nil:
		return api.ErrNil
	case !n.is(from), !n.is(to):
		return api.ErrArg
	case len(data) > api.MaxMsg:
		return api.ErrBig
	}
	return n.put(Packet{From: from, To: to, Data: data})
}

// put: a packet goes on its way under the next number, with data of its own, so that whoever takes it may have them.
func (n *Net) put(p Packet) api.Errno {
	if len(n.flight) >= api.MaxFlight {
		return api.ErrBig
	}
	p.Id, p.Data = n.next, bytes.Clone(p.Data)
	n.flight = append(n.flight, p)
	n.next++
	return api.OK
}

// Flight: the packets that are on their way.
func (n *Net) Flight() []Packet {
	if n == nil {
		return nil
	}
	out := slices.Clone(n.flight)
	for i := range out {
		out[i].Data = bytes.Clone(out[i].Data)
	}
	return out
}

// Take: the packet of a number, which is on its way no more.
func (n *Net) Take(id int) (Packet, api.Errno) {
	if n == nil {
		return Packet{}, api.ErrNil
	}
	at, there := n.place(id)
	if !there {
		return Packet{}, api.ErrGone
	}
	p := n.flight[at]
	n.flight = slices.Delete(n.flight, at, at+1)
	return p, api.OK
}

// Copy: a packet like that of a number goes on its way, too.
func (n *Net) Copy(id int) api.Errno {
	if n == nil {
		return api.ErrNil
	}
	at, there := n.place(id)
	if !there {
		return api.ErrGone
	}
	return n.put(n.flight[at])
}

// place: where in flight the packet of a number is.
func (n *Net) place(id int) (int, bool) {
	return slices.BinarySearchFunc(n.flight, id, func(p Packet, id int) int { return cmp.Compare(p.Id, id) })
}
