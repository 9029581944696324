package state_test

import (
	"bytes"
	"fmt"
	"strings"
	"testing"

	"conclave/api"
	"conclave/state"
	"conclave/trie"
)

// overwrite: all bytes of a list, its spare room too.
func overwrite(b []byte) {
	b = b[:cap(b)]
	for i := range b {
		b[i] ^= 0xa5
	}
}

func overwriteWords(l []api.Word) {
	l = l[:cap(l)]
	for i := range l {
		l[i][0] ^= 0xa5
	}
}

// Rule 4: what comes in is neither changed nor kept, its spare room neither.
func TestHandedIn(t *testing.T) {
	s, p := fresh(), newPlain()
	code := []byte("codespare")
	data := []byte("dataspare")
	topics := []api.Word{num(1), num(2), num(3)}
	s.SetCode(addr(1), code[:4])
	s.Log(api.Log{Addr: addr(1), Topics: topics[:2], Data: data[:4]})
	s.Log(api.Log{Addr: addr(1), Topics: topics[:1], Data: data[:2]})
	s.Root()
	s.Code(addr(1))
	s.Logs()
	is(t, "as it was", fmt.Sprint(string(code), string(data), topics), fmt.Sprint("codespare", "dataspare", []api.Word{num(1), num(2), num(3)}))
	overwrite(code)
	overwrite(data)
	overwriteWords(topics)
	p.SetCode(addr(1), []byte("code"))
	p.Log(api.Log{Addr: addr(1), Topics: []api.Word{num(1), num(2)}, Data: []byte("data")})
	p.Log(api.Log{Addr: addr(1), Topics: []api.Word{num(1)}, Data: []byte("da")})
	same(t, "overwritten", s, p, addrs(), keys())
}

// Rule 4: what nodes tells is neither changed nor kept.
func TestToldIn(t *testing.T) {
	p := some()
	root, st := storeOf(p)
	var handed, were [][]byte
	s := state.Open(root, func(h api.Hash) ([]byte, bool) {
		b := append(bytes.Clone(st.told[h]), "spare"...)
		handed, were = append(handed, b), append(were, bytes.Clone(b))
		return b[:len(st.told[h])], st.told[h] != nil
	})
	spoil := func(what string) {
		t.Helper()
		for i := range handed {
			if !bytes.Equal(handed[i], were[i]) {
				t.Errorf("%s changed what was told", what)
			}
			overwrite(handed[i])
		}
		handed, were = nil, nil
	}
	code := s.Code(addr(5))
	spoil("Code")
	is(t, "Code", string(code), strings.Repeat("c", 5))
	for _, x := range []face{s, p} {
		x.SetBalance(addr(5), num(1))
		x.SetSlot(addr(6), num(3), num(1))
		x.SetNonce(addr(9), 3)
	}
	spoil("the sets")
	same(t, "behind sets", s, p, addrs(), keys())
	spoil("the looks")
	h, l := s.Root()
	spoil("Root")
	more := newStore()
	for _, n := range l {
		st.told[n.Hash] = n.Enc
	}
	more.told = st.told
	same(t, "opened", state.Open(h, more.tell), p.opened(), addrs(), keys())
}

// Rule 4: what is handed out is new memory, each list in it, spare room too.
func TestHandedOut(t *testing.T) {
	p := some()
	root, st := storeOf(p)
	s := state.Open(root, st.tell)
	for _, x := range []face{s, p} {
		x.SetCode(addr(1), []byte("code"))
		x.SetCode(addr(2), []byte("code"))
		for n := range byte(3) {
			x.Log(api.Log{Addr: addr(n), Topics: []api.Word{num(1), num(2)}, Data: []byte{n, n}})
		}
	}
	for _, a := range addrs() {
		code := s.Code(a)
		overwrite(code)
		_ = append(code, "++++"...)
	}
	logs := s.Logs()
	for i := range logs {
		overwrite(logs[i].Data)
		is(t, "topics beside data", logs[i].Topics, []api.Word{num(1), num(2)})
		overwriteWords(logs[i].Topics)
		if i+1 < len(logs) {
			is(t, "the next log", fmt.Sprint(logs[i+1]), fmt.Sprint(p.Logs()[i+1]))
		}
		logs[i] = api.Log{}
	}
	_ = append(logs, api.Log{Data: []byte{9}})
	same(t, "behind Code and Logs", s, p, addrs(), keys())
	h, l := s.Root()
	for i, n := range l {
		overwrite(n.Enc)
		other := newStore()
		other.add(t, l[i+1:])
		l[i] = trie.Node{}
	}
	same(t, "behind Root", s, p, addrs(), keys())
	again, l := s.Root()
	st.add(t, l)
	is(t, "Root again", again, h)
	s.SetCode(addr(1), []byte("edoc"))
	s.SetCode(addr(2), nil)
	same(t, "told ahead of that", state.Open(h, st.tell), p.opened(), addrs(), keys())
}

// Rule 5: two states share nothing, also those over one function.
func TestTwo(t *testing.T) {
	p := some()
	root, st := storeOf(p)
	s, other := state.Open(root, st.tell), state.Open(root, st.tell)
	for _, do := range busy() {
		do(s)
	}
	s.Root()
	same(t, "another state", other, p, addrs(), keys())
	is(t, "warm", fmt.Sprint(other.Warm(addr(1)), other.WarmSlot(addr(1), num(1)), other.Snapshot()), "false false 0")
}
